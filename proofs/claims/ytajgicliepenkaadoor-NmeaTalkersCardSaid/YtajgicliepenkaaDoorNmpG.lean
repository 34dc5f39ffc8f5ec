/-
  The program's sentences: a reader's places.
-/
import Derived.Test.YtajgicliepenkaaDoorNmpF
namespace Go.Proofs.YtajgicliepenkaaDoor
open Go.RowKit
set_option linter.unusedVariables false

/-- The fields by their numbers. -/
def fb (bs : List ByteArray) (j : Nat) : List Nat := (bs.map nat).getD j []
theorem fb_at {bs : List ByteArray} {j : Nat} {x : ByteArray} (h : bs[j]? = some x) : fb bs j = nat x := by
  unfold fb
  rw [List.getD_eq_getElem?_getD, List.getElem?_map, h]
  rfl
abbrev FarX (E X : Nat) := Far (fun k => k = E ∨ k = X)
/-- What a call that writes a fix has done. -/
def Rdx (w : World) (S n c : Nat) (bs : List ByteArray) (E X : Nat) (s : Rs) (e : Ending) (w' : World) : Prop := e = .returned (.tuple #[]) ∧ Rd w' S n c bs E X s ∧ FarX E X w w'
theorem farE_x {E X : Nat} {w w' : World} (h : FarE E w w') : FarX E X w w' := h.mono (fun k _ hk => .inl hk)
theorem farX_put {E X : Nat} {w w' : World} (h : FarX E X w w') (k : Nat) (v : Value) : FarX E X w (w'.setCell ⟨X, k, none⟩ v) := Far.setCell h (p := ⟨X, k, none⟩) (.inr rfl) v
section
variable {w w' : World} {S n c E X : Nat} {bs : List ByteArray} {s : Rs}
theorem Rd.p_valid (h : Rd w S n c bs E X s) (v : Bool) : Rd (w.setCell ⟨X, 1, none⟩ (.bool v)) S n c bs E X ({ s.1 with valid := v }, s.2) := h.put 1 (.bool v) { s.1 with valid := v } rfl
theorem Rd.p_hasTime (h : Rd w S n c bs E X s) (v : Bool) : Rd (w.setCell ⟨X, 2, none⟩ (.bool v)) S n c bs E X ({ s.1 with hasTime := v }, s.2) := h.put 2 (.bool v) { s.1 with hasTime := v } rfl
theorem Rd.p_hasDate (h : Rd w S n c bs E X s) (v : Bool) : Rd (w.setCell ⟨X, 3, none⟩ (.bool v)) S n c bs E X ({ s.1 with hasDate := v }, s.2) := h.put 3 (.bool v) { s.1 with hasDate := v } rfl
theorem Rd.p_hasPos (h : Rd w S n c bs E X s) (v : Bool) : Rd (w.setCell ⟨X, 4, none⟩ (.bool v)) S n c bs E X ({ s.1 with hasPos := v }, s.2) := h.put 4 (.bool v) { s.1 with hasPos := v } rfl
theorem Rd.p_day (h : Rd w S n c bs E X s) (v : Int) : Rd (w.setCell ⟨X, 9, none⟩ (.int .i64 v)) S n c bs E X ({ s.1 with day := v }, s.2) := h.put 9 (.int .i64 v) { s.1 with day := v } rfl
theorem Rd.p_month (h : Rd w S n c bs E X s) (v : Int) : Rd (w.setCell ⟨X, 10, none⟩ (.int .i64 v)) S n c bs E X ({ s.1 with month := v }, s.2) := h.put 10 (.int .i64 v) { s.1 with month := v } rfl
theorem Rd.p_year (h : Rd w S n c bs E X s) (v : Int) : Rd (w.setCell ⟨X, 11, none⟩ (.int .i64 v)) S n c bs E X ({ s.1 with year := v }, s.2) := h.put 11 (.int .i64 v) { s.1 with year := v } rfl
theorem Rd.p_lat (h : Rd w S n c bs E X s) (v : Int) : Rd (w.setCell ⟨X, 12, none⟩ (.int .i64 v)) S n c bs E X ({ s.1 with lat := v }, s.2) := h.put 12 (.int .i64 v) { s.1 with lat := v } rfl
theorem Rd.p_lon (h : Rd w S n c bs E X s) (v : Int) : Rd (w.setCell ⟨X, 13, none⟩ (.int .i64 v)) S n c bs E X ({ s.1 with lon := v }, s.2) := h.put 13 (.int .i64 v) { s.1 with lon := v } rfl
theorem Rd.p_speed (h : Rd w S n c bs E X s) (v : Int) : Rd (w.setCell ⟨X, 14, none⟩ (.int .i64 v)) S n c bs E X ({ s.1 with speed := v }, s.2) := h.put 14 (.int .i64 v) { s.1 with speed := v } rfl
theorem Rd.p_course (h : Rd w S n c bs E X s) (v : Int) : Rd (w.setCell ⟨X, 15, none⟩ (.int .i64 v)) S n c bs E X ({ s.1 with course := v }, s.2) := h.put 15 (.int .i64 v) { s.1 with course := v } rfl
theorem Rd.p_quality (h : Rd w S n c bs E X s) (v : Int) : Rd (w.setCell ⟨X, 16, none⟩ (.int .i64 v)) S n c bs E X ({ s.1 with quality := v }, s.2) := h.put 16 (.int .i64 v) { s.1 with quality := v } rfl
theorem Rd.p_sats (h : Rd w S n c bs E X s) (v : Int) : Rd (w.setCell ⟨X, 17, none⟩ (.int .i64 v)) S n c bs E X ({ s.1 with sats := v }, s.2) := h.put 17 (.int .i64 v) { s.1 with sats := v } rfl
theorem Rd.p_mode (h : Rd w S n c bs E X s) (v : Int) : Rd (w.setCell ⟨X, 18, none⟩ (.int .i64 v)) S n c bs E X ({ s.1 with mode := v }, s.2) := h.put 18 (.int .i64 v) { s.1 with mode := v } rfl
theorem Rd.p_height (h : Rd w S n c bs E X s) (v : Int) : Rd (w.setCell ⟨X, 19, none⟩ (.int .i64 v)) S n c bs E X ({ s.1 with height := v }, s.2) := h.put 19 (.int .i64 v) { s.1 with height := v } rfl
theorem Rd.p_pdop (h : Rd w S n c bs E X s) (v : Int) : Rd (w.setCell ⟨X, 20, none⟩ (.int .i64 v)) S n c bs E X ({ s.1 with pdop := v }, s.2) := h.put 20 (.int .i64 v) { s.1 with pdop := v } rfl
theorem Rd.p_hdop (h : Rd w S n c bs E X s) (v : Int) : Rd (w.setCell ⟨X, 21, none⟩ (.int .i64 v)) S n c bs E X ({ s.1 with hdop := v }, s.2) := h.put 21 (.int .i64 v) { s.1 with hdop := v } rfl
theorem Rd.p_vdop (h : Rd w S n c bs E X s) (v : Int) : Rd (w.setCell ⟨X, 22, none⟩ (.int .i64 v)) S n c bs E X ({ s.1 with vdop := v }, s.2) := h.put 22 (.int .i64 v) { s.1 with vdop := v } rfl
theorem Rd.p_parts (h : Rd w S n c bs E X s) (v : Int) : Rd (w.setCell ⟨X, 23, none⟩ (.int .i64 v)) S n c bs E X ({ s.1 with parts := v }, s.2) := h.put 23 (.int .i64 v) { s.1 with parts := v } rfl
theorem Rd.p_part (h : Rd w S n c bs E X s) (v : Int) : Rd (w.setCell ⟨X, 24, none⟩ (.int .i64 v)) S n c bs E X ({ s.1 with part := v }, s.2) := h.put 24 (.int .i64 v) { s.1 with part := v } rfl
theorem Rd.p_time (h : Rd w S n c bs E X s) (a b d : Nat) (f : Bool) : Rd ((((w.setCell ⟨X, 5, none⟩ (.int .i64 (a : Nat))).setCell ⟨X, 6, none⟩ (.int .i64 (b : Nat))).setCell ⟨X, 7, none⟩ (.int .i64 (d : Nat))).setCell ⟨X, 8, none⟩ (.bool f)) S n c bs E X ({ s.1 with time := (a, b, d, f) }, s.2) :=
  (((h.put 5 (.int .i64 (a : Nat)) { s.1 with time := (a, s.1.time.2) } rfl).put 6 (.int .i64 (b : Nat)) { s.1 with time := (a, b, s.1.time.2.2) } rfl).put 7 (.int .i64 (d : Nat)) { s.1 with time := (a, b, d, s.1.time.2.2.2) } rfl).put 8 (.bool f) { s.1 with time := (a, b, d, f) } rfl
/-- The box of a reader stays. -/
theorem box_kept {B S n c E : Nat} {W : World} (hB : B < W.heap.size) (hE : B ≠ E) (d0 : W.cell? ⟨B, 0, none⟩ = some (.slice (some ⟨S, 0, none⟩) n c)) (d1 : W.cell? ⟨B, 1, none⟩ = some (.func (.func 9) #[] #[.pointer (some ⟨E, 0, none⟩)])) :
    ∀ w', FarE E W w' → w'.cell? ⟨B, 0, none⟩ = some (.slice (some ⟨S, 0, none⟩) n c) ∧ w'.cell? ⟨B, 1, none⟩ = some (.func (.func 9) #[] #[.pointer (some ⟨E, 0, none⟩)]) :=
  fun w' g => ⟨(g.cell (p := ⟨B, 0, none⟩) hB hE).trans d0, (g.cell (p := ⟨B, 1, none⟩) hB hE).trans d1⟩

theorem sPos_has {f : Nat → List Nat} {j : Nat} {a0 a1 a2 a3 : List Nat} (h0 : f j = a0) (h1 : f (j + 1) = a1) (h2 : f (j + 2) = a2) (h3 : f (j + 3) = a3) :
    sPos f j s = ({ s.1 with hasPos := (angOf a0 2 90).2 == 0 && (oneOf a1 [78, 83]).2 == 0 && (angOf a2 3 180).2 == 0 && (oneOf a3 [69, 87]).2 == 0, lat := if (angOf a0 2 90).2 == 0 && (oneOf a1 [78, 83]).2 == 0 && (angOf a2 3 180).2 == 0 && (oneOf a3 [69, 87]).2 == 0 then (angOf a0 2 90).1 * (1 - 2 * ((oneOf a1 [78, 83]).1 : Nat)) else s.1.lat, lon := if (angOf a0 2 90).2 == 0 && (oneOf a1 [78, 83]).2 == 0 && (angOf a2 3 180).2 == 0 && (oneOf a3 [69, 87]).2 == 0 then (angOf a2 3 180).1 * (1 - 2 * ((oneOf a3 [69, 87]).1 : Nat)) else s.1.lon },
     s.2 || badE (angOf a0 2 90).2 || badE (oneOf a1 [78, 83]).2 || badE (angOf a2 3 180).2 || badE (oneOf a3 [69, 87]).2) := by
  subst h0 h1 h2 h3
  rfl
theorem ang_in (S : List Nat) (hB : ∀ i, wd S i < 256) (d most : Nat) (hm : most ≤ 1000) : -2000000000000 ≤ (angOf S d most).1 ∧ (angOf S d most).1 ≤ 2000000000000 := by
  have h1 := int_in (S.take (min d S.length)) 0 most (by omega)
  have h2 := min_in (S.drop (min d S.length)) (fun i => by
    have := hB (min d S.length + i)
    unfold wd at this ⊢
    rw [List.getD_eq_getElem?_getD, List.getElem?_drop, ← List.getD_eq_getElem?_getD]; exact this)
  unfold angOf
  repeat' split
  all_goals simp only
  all_goals omega
theorem one_in (S O : List Nat) (h : (oneOf S O).2 = 0) : (oneOf S O).1 < O.length := by
  unfold oneOf at h ⊢
  split
  · rename_i h1; rw [if_pos h1] at h; exact absurd h h1
  · rename_i h1
    rw [if_neg h1] at h
    split
    · rename_i h2; exact h2.2
    · rename_i h2; rw [if_neg h2] at h; cases h

set_option maxHeartbeats 4000000 in
set_option maxRecDepth 100000 in
theorem r_position (h : Rd w S n c bs E X s) (j : Nat) (x0 x1 x2 x3 : ByteArray) (h0 : bs[j]? = some x0) (h1 : bs[j + 1]? = some x1) (h2 : bs[j + 2]? = some x2) (h3 : bs[j + 3]? = some x3) :
    Calls Tryd.prog 40 #[rv S n c E, .int .i64 (j : Nat), .pointer (some ⟨X, 0, none⟩)] w (Rdx w S n c bs E X (sPos (fb bs) j s)) := by
  have HS := Lib.hid (sPos_has (s := s) (fb_at h0) (fb_at h1) (fb_at h2) (fb_at h3))
  obtain ⟨W, hW, gW, ltW, d0, d1⟩ := boxR w S n c E
  have hj := (h.at_ h3).1
  have hmany := h.many
  have m1 : IntKind.i64.wrap ((j : Int) + 1) = ((j + 1 : Nat) : Int) := by rw [IntWalk.i64_in _ (by omega)]; simp
  have m2 : IntKind.i64.wrap ((j : Int) + 2) = ((j + 2 : Nat) : Int) := by rw [IntWalk.i64_in _ (by omega)]; simp
  have m3 : IntKind.i64.wrap ((j : Int) + 3) = ((j + 3 : Nat) : Int) := by rw [IntWalk.i64_in _ (by omega)]; simp
  have HA0 := fun w' s' (h' : Rd w' S n c bs E X s') => Lib.hid (r_angle h' j x0 h0 2 90 (by omega) (by omega))
  have HA1 := fun w' s' (h' : Rd w' S n c bs E X s') => Lib.hid (r_sign h' (j + 1) x1 h1 ⟨#[78, 83]⟩ (by decide))
  have HA2 := fun w' s' (h' : Rd w' S n c bs E X s') => Lib.hid (r_angle h' (j + 2) x2 h2 3 180 (by omega) (by omega))
  have HA3 := fun w' s' (h' : Rd w' S n c bs E X s') => Lib.hid (r_sign h' (j + 3) x3 h3 ⟨#[69, 87]⟩ (by decide))
  rw [show nat ⟨#[78, 83]⟩ = [78, 83] from rfl] at HA1
  rw [show nat ⟨#[69, 87]⟩ = [69, 87] from rfl] at HA3
  rw [show ((2 : Nat) : Int) = 2 from rfl, show ((90 : Nat) : Int) = 90 from rfl] at HA0
  rw [show ((3 : Nat) : Int) = 3 from rfl, show ((180 : Nat) : Int) = 180 from rfl] at HA2
  have i0 := ang_in (nat x0) (nat_lt x0) 2 90 (by omega)
  have i2 := ang_in (nat x2) (nat_lt x2) 3 180 (by omega)
  have i1 := one_in (nat x1) [78, 83]
  have i3 := one_in (nat x3) [69, 87]
  simp only [show ([78, 83] : List Nat).length = 2 from rfl, show ([69, 87] : List Nat).length = 2 from rfl] at i1 i3
  have hEl := h.hE
  have KB := box_kept ltW (show w.heap.size ≠ E by omega) d0 d1
  have HH := Lib.hid (h.grew gW)
  have GW := Lib.hid gW
  have G : Hid (FarE E W W) := Lib.hid (Far.refl _ _)
  have hXl := h.hX
  clear h gW h0 h1 h2 h3
  rw [show ((90 : Nat) : Int) = 90 from rfl] at i0
  rw [show ((180 : Nat) : Int) = 180 from rfl] at i2
  unfold Rdt at HA0 HA1 HA2 HA3
  generalize angOf (nat x0) 2 90 = r0 at *
  generalize angOf (nat x2) 3 180 = r2 at *
  generalize oneOf (nat x1) [78, 83] = r1 at *
  generalize oneOf (nat x3) [69, 87] = r3 at *
  obtain ⟨p0, q0⟩ := r0
  obtain ⟨p1, q1⟩ := r1
  obtain ⟨p2, q2⟩ := r2
  obtain ⟨p3, q3⟩ := r3
  simp only at HS HA0 HA1 HA2 HA3 i0 i1 i2 i3
  have c1 : (q1 == 0) = true → p1 < 2 := fun e => i1 (beq_iff_eq.1 e)
  have c3 : (q3 == 0) = true → p3 < 2 := fun e => i3 (beq_iff_eq.1 e)
  clear i1 i3
  generalize (q0 == 0) = b0 at *
  generalize (q1 == 0) = b1 at *
  generalize (q2 == 0) = b2 at *
  generalize (q3 == 0) = b3 at *
  generalize badE q0 = z0 at *
  generalize badE q1 = z1 at *
  generalize badE q2 = z2 at *
  generalize badE q3 = z3 at *
  have hc : (b0 && b1 && b2 && b3) = false ∧ (b0 = false ∨ (b0 = true ∧ b1 = false) ∨ (b0 = true ∧ b1 = true ∧ b2 = false) ∨ (b0 = true ∧ b1 = true ∧ b2 = true ∧ b3 = false)) ∨ (b0 = true ∧ b1 = true ∧ b2 = true ∧ b3 = true) := by
    cases b0 <;> cases b1 <;> cases b2 <;> cases b3 <;> decide
  rcases hc with ⟨ha, hc⟩ | ⟨rfl, rfl, rfl, rfl⟩
  · rw [ha] at HS
    clear i0 i2 c1 c3 ha
    rcases hc with rfl | ⟨rfl, rfl⟩ | ⟨rfl, rfl, rfl⟩ | ⟨rfl, rfl, rfl, rfl⟩
    all_goals
      unfold rv at HA0 HA1 HA2 HA3 ⊢
      go_enter Tryd.func40, Tryd.ntmps40
      go_upto_region 1 with fail
      go_upto_region 2 with (go_at_call 52; refine (HA0 _ _ HH.out).out.mono ?_; rintro e w1 ⟨rfl, hh, gg⟩; replace HH := Lib.hid hh; replace G := Lib.hid (G.out.trans gg); clear d0 d1 hh gg HA0; obtain ⟨d0, d1⟩ := KB _ G.out)
      go_upto_region 3 with (go_at_call 53; refine (HA1 _ _ HH.out).out.mono ?_; rintro e w2 ⟨rfl, hh, gg⟩; replace HH := Lib.hid hh; replace G := Lib.hid (G.out.trans gg); clear d0 d1 hh gg HA1; obtain ⟨d0, d1⟩ := KB _ G.out)
      go_upto_region 4 with (go_at_call 52; refine (HA2 _ _ HH.out).out.mono ?_; rintro e w3 ⟨rfl, hh, gg⟩; replace HH := Lib.hid hh; replace G := Lib.hid (G.out.trans gg); clear d0 d1 hh gg HA2; obtain ⟨d0, d1⟩ := KB _ G.out)
      go_upto_region 5 with (go_at_call 53; refine (HA3 _ _ HH.out).out.mono ?_; rintro e w4 ⟨rfl, hh, gg⟩; replace HH := Lib.hid hh; replace G := Lib.hid (G.out.trans gg); clear d0 d1 hh gg HA3; obtain ⟨d0, d1⟩ := KB _ G.out)
      have k4 := HH.out.cellX 4 _ rfl
      have f4 := HH.out.frozenX 4
      go_wp2_with fail
      go_returns
      exact ⟨rfl, by rw [HS.out]; exact HH.out.p_hasPos false, farX_put ((Far.of_grew GW.out).trans (farE_x G.out)) 4 _⟩
  · have n0 : IntKind.i64.wrap (p0 * (1 - 2 * (p1 : Int))) = p0 * (1 - 2 * (p1 : Int)) := by
      have := c1 rfl
      rcases (show p1 = 0 ∨ p1 = 1 by omega) with rfl | rfl <;> exact IntWalk.i64_in _ (by omega)
    have n2 : IntKind.i64.wrap (p2 * (1 - 2 * (p3 : Int))) = p2 * (1 - 2 * (p3 : Int)) := by
      have := c3 rfl
      rcases (show p3 = 0 ∨ p3 = 1 by omega) with rfl | rfl <;> exact IntWalk.i64_in _ (by omega)
    rw [show (true && true && true && true) = true from rfl, if_pos rfl, if_pos rfl] at HS
    clear i0 i2 c1 c3
    generalize 1 - 2 * (p1 : Int) = t1 at *
    generalize 1 - 2 * (p3 : Int) = t3 at *
    unfold rv at HA0 HA1 HA2 HA3 ⊢
    go_enter Tryd.func40, Tryd.ntmps40
    go_upto_region 1 with fail
    go_upto_region 2 with (go_at_call 52; refine (HA0 _ _ HH.out).out.mono ?_; rintro e w1 ⟨rfl, hh, gg⟩; replace HH := Lib.hid hh; replace G := Lib.hid (G.out.trans gg); clear d0 d1 hh gg HA0; obtain ⟨d0, d1⟩ := KB _ G.out)
    go_upto_region 3 with (go_at_call 53; refine (HA1 _ _ HH.out).out.mono ?_; rintro e w2 ⟨rfl, hh, gg⟩; replace HH := Lib.hid hh; replace G := Lib.hid (G.out.trans gg); clear d0 d1 hh gg HA1; obtain ⟨d0, d1⟩ := KB _ G.out)
    go_upto_region 4 with (go_at_call 52; refine (HA2 _ _ HH.out).out.mono ?_; rintro e w3 ⟨rfl, hh, gg⟩; replace HH := Lib.hid hh; replace G := Lib.hid (G.out.trans gg); clear d0 d1 hh gg HA2; obtain ⟨d0, d1⟩ := KB _ G.out)
    go_upto_region 5 with (go_at_call 53; refine (HA3 _ _ HH.out).out.mono ?_; rintro e w4 ⟨rfl, hh, gg⟩; replace HH := Lib.hid hh; replace G := Lib.hid (G.out.trans gg); clear d0 d1 hh gg HA3; obtain ⟨d0, d1⟩ := KB _ G.out)
    have k4 := HH.out.cellX 4 _ rfl
    have k12 := HH.out.cellX 12 _ rfl
    have k13 := HH.out.cellX 13 _ rfl
    have f4 := HH.out.frozenX 4
    have f12 := HH.out.frozenX 12
    have f13 := HH.out.frozenX 13
    go_wp2_with fail
    go_returns
    exact ⟨rfl, by rw [HS.out]; exact ((HH.out.p_hasPos true).p_lat (p0 * t1)).p_lon (p2 * t3), farX_put (farX_put (farX_put ((Far.of_grew GW.out).trans (farE_x G.out)) 4 _) 12 _) 13 _⟩
end
end Go.Proofs.YtajgicliepenkaaDoor
