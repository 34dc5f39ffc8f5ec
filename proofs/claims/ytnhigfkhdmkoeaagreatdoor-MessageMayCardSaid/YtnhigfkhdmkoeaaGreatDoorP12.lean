/-
  The program's sentences: ZDA.
  The program's sentences: Parse, whatever body.
  The program's table of UBX kinds: a map keyed by two bytes: an entry laid, an entry found.
-/
import Derived.Test.YtnhigfkhdmkoeaaGreatDoorP10
import Derived.Deep.RegionHeld3
import Derived.Deep.DeepCutAuto
import Derived.Test.YtnhigfkhdmkoeaaGreatDoorP11
import Derived.Test.YtnhigfkhdmkoeaaGreatDoorP02
import Derived.LoopTactic
import Derived.Deep.LoopGhost
import Derived.StillTailTactics
import Derived.Deep.QuietTactic
import Derived.BigQuiet
import Derived.ChangeMaps5

namespace Go.Proofs.YtnhigfkhdmkoeaaGreatDoor
open Go.RowKit
set_option linter.unusedVariables false

section
variable {w w' : World} {S n c E X : Nat} {bs : List ByteArray} {s : Rs}
set_option maxHeartbeats 4000000 in
set_option maxRecDepth 100000 in
theorem r_zda (h : Rd w S n c bs E X s) (hn : 7 ≤ n) : Calls Tryz.prog 94 #[rv S n c E, .pointer (some ⟨X, 0, none⟩)] w (Rdx w S n c bs E X (zdaOf (fb bs) s)) := by
  obtain ⟨W, hW, gW, ltW, d0, d1⟩ := boxR w S n c E
  have hEl := h.hE
  have hXl := h.hX
  have KB := box_keptX ltW (show w.heap.size ≠ E by omega) (show w.heap.size ≠ X by omega) d0 d1
  have HH := Lib.hid (h.grew gW)
  have GW := Lib.hid gW
  have G : Hid (FarX E X W W) := Lib.hid (Far.refl _ _)
  clear h gW
  unfold rv
  go_enter Tryz.func94, Tryz.ntmps94
  go_upto_region 1 with fail
  go_upto_region 2 with fail
  obtain ⟨r1, hr1⟩ : ∃ r1, clockOf (fb bs 1) = r1 := ⟨_, rfl⟩
  have H := Lib.hid (q_clock HH.out 1 (by omega) r1 hr1)
  unfold Rdt rv at H
  have HR1' := Lib.hid hr1
  clear hr1
  go_upto_region 3 with (go_at_call 111; refine H.out.mono ?_; rintro e w1 ⟨rfl, hh, gg⟩; have k5 := hh.cellX 5 _ rfl; have f5 := hh.frozenX 5; have k6 := hh.cellX 6 _ rfl; have f6 := hh.frozenX 6; have k7 := hh.cellX 7 _ rfl; have f7 := hh.frozenX 7; have k8 := hh.cellX 8 _ rfl; have f8 := hh.frozenX 8; have k2 := hh.cellX 2 _ rfl; have f2 := hh.frozenX 2)
  have hh2 := hh.time HR1'.out
  have g2 := farX_time (G.out.trans (farE_x gg)) (.int .i64 (r1.1.1 : Nat)) (.int .i64 (r1.1.2.1 : Nat)) (.int .i64 (r1.1.2.2.1 : Nat)) (.bool r1.1.2.2.2) (.bool (r1.2 == 0))
  obtain ⟨s1, hs1⟩ : ∃ t : Rs, sTime (fb bs) 1 s = t := ⟨_, rfl⟩
  replace hh2 := Rd.as hs1 hh2
  have HS1 := Lib.hid hs1
  replace HH := Lib.hid hh2
  replace G := Lib.hid g2
  clear hs1 hh2 g2 H hh gg k5 f5 k6 f6 k7 f7 k8 f8 k2 f2
  clear d0 d1
  obtain ⟨d0, d1⟩ := KB _ G.out
  obtain ⟨r2, hr2⟩ : ∃ r2, intAns (fb bs 2) 1 31 = r2 := ⟨_, rfl⟩
  have H := Lib.hid (q_number HH.out 2 (by omega) 1 31 (by decide) (by decide) r2 hr2)
  unfold Rdt rv at H
  have HR2' := Lib.hid hr2
  clear hr2
  go_upto_region 4 with (go_at_call 116; refine H.out.mono ?_; rintro e w2 ⟨rfl, hh, gg⟩; have k9 := hh.cellX 9 _ rfl; have f9 := hh.frozenX 9)
  have hh2 := hh.p_day r2.1
  have g2 := farX_put (G.out.trans (farE_x gg)) 9 (.int .i64 r2.1)
  obtain ⟨s2, hs2⟩ : ∃ t : Rs, ({ s1.1 with day := r2.1 }, s1.2 || badE r2.2) = t := ⟨_, rfl⟩
  replace hh2 := Rd.as hs2 hh2
  have HS2 := Lib.hid hs2
  replace HH := Lib.hid hh2
  replace G := Lib.hid g2
  clear hs2 hh2 g2 H hh gg k9 f9
  clear d0 d1
  obtain ⟨d0, d1⟩ := KB _ G.out
  obtain ⟨r3, hr3⟩ : ∃ r3, intAns (fb bs 3) 1 12 = r3 := ⟨_, rfl⟩
  have H := Lib.hid (q_number HH.out 3 (by omega) 1 12 (by decide) (by decide) r3 hr3)
  unfold Rdt rv at H
  have HR3' := Lib.hid hr3
  clear hr3
  go_upto_region 5 with (go_at_call 116; refine H.out.mono ?_; rintro e w3 ⟨rfl, hh, gg⟩; have k10 := hh.cellX 10 _ rfl; have f10 := hh.frozenX 10)
  have hh2 := hh.p_month r3.1
  have g2 := farX_put (G.out.trans (farE_x gg)) 10 (.int .i64 r3.1)
  obtain ⟨s3, hs3⟩ : ∃ t : Rs, ({ s2.1 with month := r3.1 }, s2.2 || badE r3.2) = t := ⟨_, rfl⟩
  replace hh2 := Rd.as hs3 hh2
  have HS3 := Lib.hid hs3
  replace HH := Lib.hid hh2
  replace G := Lib.hid g2
  clear hs3 hh2 g2 H hh gg k10 f10
  clear d0 d1
  obtain ⟨d0, d1⟩ := KB _ G.out
  obtain ⟨r4, hr4⟩ : ∃ r4, intAns (fb bs 4) 1980 2199 = r4 := ⟨_, rfl⟩
  have H := Lib.hid (q_number HH.out 4 (by omega) 1980 2199 (by decide) (by decide) r4 hr4)
  unfold Rdt rv at H
  have HR4' := Lib.hid hr4
  clear hr4
  go_upto_region 6 with (go_at_call 116; refine H.out.mono ?_; rintro e w4 ⟨rfl, hh, gg⟩; have k11 := hh.cellX 11 _ rfl; have f11 := hh.frozenX 11)
  have hh2 := hh.p_year r4.1
  have g2 := farX_put (G.out.trans (farE_x gg)) 11 (.int .i64 r4.1)
  obtain ⟨s4, hs4⟩ : ∃ t : Rs, ({ s3.1 with year := r4.1 }, s3.2 || badE r4.2) = t := ⟨_, rfl⟩
  replace hh2 := Rd.as hs4 hh2
  have HS4 := Lib.hid hs4
  replace HH := Lib.hid hh2
  replace G := Lib.hid g2
  clear hs4 hh2 g2 H hh gg k11 f11
  clear d0 d1
  obtain ⟨d0, d1⟩ := KB _ G.out
  generalize w4.setCell ⟨X, 11, none⟩ (.int .i64 r4.1) = V at *
  obtain ⟨b2, hb2⟩ : ∃ b, (r2.2 == 0) = b := ⟨_, rfl⟩
  obtain ⟨b3, hb3⟩ : ∃ b, (r3.2 == 0) = b := ⟨_, rfl⟩
  obtain ⟨b4, hb4⟩ : ∃ b, (r4.2 == 0) = b := ⟨_, rfl⟩
  rw [hb2, hb3, hb4]
  have HB2 := Lib.hid hb2
  have HB3 := Lib.hid hb3
  have HB4 := Lib.hid hb4
  clear hb2 hb3 hb4
  obtain ⟨x4, hx4⟩ := HH.out.ex 4 (by omega)
  have c4 := HH.out.fields 4 x4 hx4
  have n4 : (4 : Int) < n := by omega
  have n4c : (4 : Int) < c := by have := HH.out.cap; omega
  have HL := Lib.hid (show (fb bs 4).length = x4.size by rw [fb_at hx4, nat_length])
  have HA := fun b => Lib.hid (r_ask (HH.out.grew (Grew.refl _).drew) b)
  have KS := box_field ltW (show w.heap.size ≠ E by omega) HH.out G.out d0 d1 c4
  have GD := HH.out.drew
  unfold Rdt rv at HA
  clear hx4 c4
  obtain ⟨s5, hs5⟩ : ∃ t : Rs, (s4.1, s4.2 || (b4 && (fb bs 4).length != 4)) = t := ⟨_, rfl⟩
  go_cut [53] (fun q wx => Rd wx S n c bs E X s5 ∧ FarE E V wx)
  case first =>
    cases b4
    · have HS5 := Lib.hid hs5
      clear KS n4 n4c HL hs5
      first | (go_region_with (first | (go_at_call 73; refine (HA _).out.mono ?_; rintro e w5 ⟨rfl, hh, gg⟩; replace GD := GD.trans gg))) | fail
      all_goals
        go_wp2_with fail
        go_meet
        exact ⟨Rd.as (show (s4.1, s4.2 || !true) = s5 by rw [← HS5.out]; rfl) hh, GD⟩
    · have HS5 := Lib.hid hs5
      clear d0 d1 hs5
      go_region_held3 (fun w' => w'.cell? ⟨w.heap.size, 0, none⟩ = some (.slice (some ⟨S, 0, none⟩) n c) ∧ w'.cell? ⟨w.heap.size, 1, none⟩ = some (.func (.func 50) #[] #[.pointer (some ⟨E, 0, none⟩)]) ∧ w'.cell? ⟨S, 4, none⟩ = some (.string x4)) (exact KS _ GD)
        (first | (go_at_call 73; refine (HA _).out.mono ?_; rintro e w5 ⟨rfl, hh, gg⟩; replace GD := GD.trans gg))
      all_goals
        go_wp2_with fail
        go_meet
        exact ⟨Rd.as (show (s4.1, s4.2 || !((x4.size : Int) == 4)) = s5 by rw [← HS5.out, HL.out, Bool.true_and]; exact zda_len _ _) hh, GD⟩
  case rest =>
    obtain ⟨hh, gg⟩ := hcut
    have HS5 := Lib.hid hs5
    replace HH := Lib.hid hh
    replace G := Lib.hid (G.out.trans (farE_x gg))
    have k3 := HH.out.cellX 3 (.bool s5.1.hasDate) rfl
    have f3 := HH.out.frozenX 3
    clear hh gg GD HA KS HL hs5 d0 d1
    obtain ⟨s6, hs6⟩ : ∃ t : Rs, ({ s5.1 with hasDate := b2 && b3 && b4 }, s5.2) = t := ⟨_, rfl⟩
    go_upto_region 7 with fail
    go_cut [63] (fun q wx => Rd wx S n c bs E X s6 ∧ FarX E X wc wx)
    case first =>
      cases b2 <;> cases b3 <;> cases b4
      all_goals
        have HS6 := Lib.hid hs6
        clear hs6
        go_wp2_with fail
        go_meet
        refine ⟨Rd.as ?_ (HH.out.p_hasDate _), farX_put (Far.refl _ _) 3 _⟩
        rw [← HS6.out]
        rfl
    case rest =>
      obtain ⟨hh, gg⟩ := hcut
      have HS6 := Lib.hid hs6
      replace HH := Lib.hid hh
      replace G := Lib.hid (G.out.trans gg)
      clear hh gg hs6 k3 f3
      have k1 := HH.out.cellX 1 (.bool s6.1.valid) rfl
      have f1 := HH.out.frozenX 1
      have k2 := HH.out.cellX 2 (.bool s6.1.hasTime) rfl
      have k3 := HH.out.cellX 3 (.bool s6.1.hasDate) rfl
      cases ht : s6.1.hasTime <;> cases hd : s6.1.hasDate
      all_goals
        rw [ht] at k2
        rw [hd] at k3
        have HB := Lib.hid (And.intro ht hd)
        clear ht hd
        go_wp2_with fail
        go_returns
        have hh := Rd.as (show _ = (({ s6.1 with valid := s6.1.hasTime && s6.1.hasDate }, s6.2) : Rs) by rw [HB.out.1, HB.out.2]) (HH.out.p_valid _)
        have q := HS6.out; clear HS6; subst q
        have q := HS5.out; clear HS5; subst q
        have q := HB4.out; clear HB4; subst q
        have q := HB3.out; clear HB3; subst q
        have q := HB2.out; clear HB2; subst q
        have q := HS4.out; clear HS4; subst q
        have q := HR4'.out; clear HR4'; subst q
        have q := HS3.out; clear HS3; subst q
        have q := HR3'.out; clear HR3'; subst q
        have q := HS2.out; clear HS2; subst q
        have q := HR2'.out; clear HR2'; subst q
        have q := HS1.out; clear HS1; subst q
        have q := HR1'.out; clear HR1'; subst q
        exact ⟨rfl, hh, farX_put ((Far.of_grew GW.out).trans G.out) 1 _⟩

end
end Go.Proofs.YtnhigfkhdmkoeaaGreatDoor

namespace Go.Proofs.YtnhigfkhdmkoeaaGreatDoor
open Go.RowKit
set_option linter.unusedVariables false

theorem kind_is {x0 : ByteArray} (hx : x0.size ≤ 2000) {k : Nat} (h : kindOfN (nat x0) = k + 1) (num least most g : Nat) (ps : List Nat)
    (hp : ∀ M w, NKinds w M → ∃ A m c, (nvals M).getD k (.int .i64 0) = .agg #[.int .u8 (num : Nat), .int .i64 (least : Nat), .int .i64 (most : Nat), .slice A m c, .func (.func g) #[] #[]] ∧ PlacesIn w (.slice A m c) ps) : KindIs x0 num least most g ps := by
  intro w
  refine (nk_kindOf x0 w hx).mono fun e w' q => ?_
  rcases q with ⟨gr, ⟨h0, _⟩ | ⟨j, M, _, h1, he, hN, _⟩⟩
  · omega
  · obtain rfl : j = k := by omega
    obtain ⟨A, m, c, hv, hP⟩ := hp M w' hN
    exact ⟨A, m, c, by rw [he, hv], hP, gr⟩
theorem places_of {w : World} {b n : Nat} {C : Array Value} {t : TypeId} {ps : List Nat} (h : w.heap[b]? = some (.cells C t)) (hn : ps.length = n) (hC : ∀ (i : Nat) p, ps[i]? = some p → C[i]? = some (.int .i64 (p : Nat))) : PlacesIn w (.slice (some ⟨b, 0, none⟩) n n) ps := by
  subst hn
  exact ⟨_, _, rfl, Nat.le_refl _, fun _ => ⟨b, rfl, (Array.getElem?_eq_some_iff.1 h).1, fun i p hp => by simp [World.cell?, h, hC i p hp]⟩⟩
theorem places_none (w : World) : PlacesIn w (.slice none 0 0) [] := ⟨none, 0, rfl, Nat.le_refl _, fun h => absurd h (by decide)⟩
theorem kind_le (S : List Nat) : kindOfN S ≤ 7 := by
  unfold kindOfN
  split
  · omega
  · unfold lettersOf
    repeat' split
    all_goals omega
theorem at_one {a : Nat} : ∀ (i : Nat) p, [a][i]? = some p → (#[.int .i64 (a : Nat)] : Array Value)[i]? = some (.int .i64 (p : Nat)) := by
  intro i p h
  rcases i with _ | i
  · simp at h; subst h; rfl
  · simp at h
set_option maxRecDepth 100000 in
theorem prog_Parse (s : ByteArray) (w : World) (hs : s.size ≤ 2000) : Calls Tryz.prog 18 #[.string s] w (ParseT s w) := by
  obtain ⟨x0, h0⟩ := parts_first s
  have hx : x0.size ≤ 2000 := Nat.le_trans (partsB_size s x0 (List.mem_of_getElem? h0)) hs
  have hle := kind_le (nat x0)
  obtain ⟨k, hk⟩ : ∃ k, kindOfN (nat x0) = k := ⟨_, rfl⟩
  rw [hk] at hle
  rcases (show k = 0 ∨ k = 1 ∨ k = 2 ∨ k = 3 ∨ k = 4 ∨ k = 5 ∨ k = 6 ∨ k = 7 by omega) with rfl | rfl | rfl | rfl | rfl | rfl | rfl | rfl
  · exact parse_none s x0 w hs h0 hk
  · exact parse_known s x0 w hs h0 1 11 13 90 [2] (fun f _ s => rmcOf f s) hk (by omega) rfl rfl (by omega) (fun i p hp => by rcases i with _ | i <;> simp at hp; omega) (by simp) (fun _ _ => rfl) (fun _ _ => rfl)
      (kind_is hx hk _ _ _ _ _ (fun M w h => ⟨_, _, _, rfl, places_of h.r rfl at_one⟩)) (fun w S n c bs E X s' h hn _ => r_rmc h (by omega))
  · exact parse_known s x0 w hs h0 2 14 14 91 [] (fun f _ s => ggaOf f s) hk (by omega) rfl rfl (by omega) (fun i p hp => by simp at hp) (by simp) (fun _ _ => rfl) (fun _ _ => rfl)
      (kind_is hx hk _ _ _ _ _ (fun M w h => ⟨_, _, _, rfl, places_none w⟩)) (fun w S n c bs E X s' h hn _ => r_gga h (by omega))
  · exact parse_known s x0 w hs h0 3 6 7 92 [6] (fun f _ s => gllOf f s) hk (by omega) rfl rfl (by omega) (fun i p hp => by rcases i with _ | i <;> simp at hp; omega) (by simp) (fun _ _ => rfl) (fun _ _ => rfl)
      (kind_is hx hk _ _ _ _ _ (fun M w h => ⟨_, _, _, rfl, places_of h.l rfl at_one⟩)) (fun w S n c bs E X s' h hn _ => r_gll h (by omega))
  · exact parse_known s x0 w hs h0 4 17 18 93 [1, 2] (fun f _ s => gsaOf f s) hk (by omega) rfl rfl (by omega) (fun i p hp => by rcases i with _ | _ | i <;> simp at hp <;> omega) (by simp) (fun _ _ => rfl) (fun _ _ => rfl)
      (kind_is hx hk _ _ _ _ _ (fun M w h => ⟨_, _, _, rfl, places_of h.a rfl (fun i p hp => by rcases i with _ | _ | i <;> simp at hp <;> subst hp <;> rfl)⟩)) (fun w S n c bs E X s' h hn h0 => r_gsa h (by omega) h0)
  · exact parse_known s x0 w hs h0 5 6 6 94 [] (fun f _ s => zdaOf f s) hk (by omega) rfl rfl (by omega) (fun i p hp => by simp at hp) (by simp) (fun _ _ => rfl) (fun _ _ => rfl)
      (kind_is hx hk _ _ _ _ _ (fun M w h => ⟨_, _, _, rfl, places_none w⟩)) (fun w S n c bs E X s' h hn _ => r_zda h (by omega))
  · exact parse_known s x0 w hs h0 6 8 9 95 [] (fun f _ s => vtgOf f s) hk (by omega) rfl rfl (by omega) (fun i p hp => by simp at hp) (by simp) (fun _ _ => rfl) (fun _ _ => rfl)
      (kind_is hx hk _ _ _ _ _ (fun M w h => ⟨_, _, _, rfl, places_none w⟩)) (fun w S n c bs E X s' h hn _ => r_vtg h (by omega))
  · exact parse_known s x0 w hs h0 7 3 20 96 [1, 2, 3] (fun f n s => gsvOf f n s) hk (by omega) rfl rfl (by omega) (fun i p hp => by rcases i with _ | _ | _ | i <;> simp at hp <;> omega) (by simp) (fun _ _ => rfl) (fun _ _ => rfl)
      (kind_is hx hk _ _ _ _ _ (fun M w h => ⟨_, _, _, rfl, places_of h.v rfl (fun i p hp => by rcases i with _ | _ | _ | i <;> simp at hp <;> subst hp <;> rfl)⟩)) (fun w S n c bs E X s' h hn _ => r_gsv h (by omega))
end Go.Proofs.YtnhigfkhdmkoeaaGreatDoor

namespace Go.Proofs.YtnhigfkhdmkoeaaGreatDoor
open Go.RowKit
set_option linter.unusedVariables false

theorem key_equal (w : World) (a b c d : Nat) : (Op.equal 96 (.agg #[.int .u8 (a : Nat), .int .u8 (b : Nat)]) (.agg #[.int .u8 (c : Nat), .int .u8 (d : Nat)])).run Tryz.prog w = .ok (a == c && b == d) w := by
  unfold Op.equal Op.maxDepth
  by_cases h1 : a = c
  · subst h1
    by_cases h2 : b = d
    · subst h2
      go_simp
    · have h2' : ¬ (b : Int) = d := by omega
      go_simp
  · have h1' : ¬ (a : Int) = c := by omega
    go_simp
theorem key_checkB (w : World) (em : Bool) (n : Nat) (x : Int) : (Instr.checkKey em (n + 1) 5 (.int .u8 x)).run Tryz.prog w = .ok () w := by
  unfold Instr.checkKey
  go_simp
theorem key_check (w : World) (em : Bool) (a b : Nat) : (Instr.checkKey em 10000 96 (.agg #[.int .u8 (a : Nat), .int .u8 (b : Nat)])).run Tryz.prog w = .ok () w := by
  have h := fun w x => key_checkB w em 9998 x
  unfold Instr.checkKey
  go_simp
theorem key_under : Tryz.prog.underlying 96 = some (.struct (Tryz.prog.fieldsOf 96)) := by kernel_rfl
theorem map_under : Tryz.prog.underlying 93 = some (.map 96 91) := by kernel_rfl
/-- A key. -/
def keyV (a b : Nat) : Value := .agg #[.int .u8 (a : Nat), .int .u8 (b : Nat)]
theorem ask_none (w : World) (a b : Nat) : ∀ (es : List MapEntry) (i : Nat), (∀ e ∈ es, ∃ c d : Nat, e.key = keyV c d ∧ (a == c && b == d) = false) → (Instr.findAsking 96 (keyV a b) es i).run Tryz.prog w = .ok none w
  | [], _, _ => rfl
  | e :: es, i, h => by
    obtain ⟨c, d, h1, h2⟩ := h e (by simp)
    have ih := ask_none w a b es (i + 1) (fun e he => h e (by simp [he]))
    simp only [Instr.findAsking, h1, keyV, Sem.run_bind, key_equal, h2, Result.andThen_ok, Bool.false_eq_true, if_false]
    exact ih
theorem ask_some (w : World) (a b : Nat) : ∀ (es : List MapEntry) (i : Nat), (∀ e ∈ es, ∃ c d : Nat, e.key = keyV c d) → (∃ e ∈ es, e.key = keyV a b) → ∃ e ∈ es, e.key = keyV a b ∧ ∃ j, (Instr.findAsking 96 (keyV a b) es i).run Tryz.prog w = .ok (some (j, e.val)) w
  | [], _, _, h => by obtain ⟨e, he, _⟩ := h; simp at he
  | e :: es, i, h, hx => by
    obtain ⟨c, d, h1⟩ := h e (by simp)
    by_cases q : (a == c && b == d) = true
    · have q2 := q
      simp only [Bool.and_eq_true, beq_iff_eq] at q2
      obtain ⟨rfl, rfl⟩ := q2
      refine ⟨e, by simp, h1, i, ?_⟩
      simp only [Instr.findAsking, h1, keyV, Sem.run_bind, key_equal, q, Result.andThen_ok, if_true, Sem.run_pure]
    · have q' : (a == c && b == d) = false := by simpa using q
      obtain ⟨e', he', h2, j, hr⟩ := ask_some w a b es (i + 1) (fun e he => h e (by simp [he])) (by
        obtain ⟨x, hx1, hx2⟩ := hx
        rcases List.mem_cons.1 hx1 with rfl | hx1
        · exfalso
          rw [h1] at hx2
          simp [keyV] at hx2
          obtain ⟨z1, z2⟩ := hx2
          exact q (by obtain rfl : c = a := by omega
                      obtain rfl : d = b := by omega
                      simp)
        · exact ⟨x, hx1, hx2⟩)
      refine ⟨e', by simp [he'], h2, j, ?_⟩
      simp only [Instr.findAsking, h1, keyV, Sem.run_bind, key_equal, q', Result.andThen_ok, Bool.false_eq_true, if_false]
      exact hr
theorem find_ask (w : World) (a b : Nat) (es : List MapEntry) (h : ∀ e ∈ es, ∃ c d : Nat, e.key = keyV c d) : (Instr.findKey 96 (keyV a b) es).run Tryz.prog w = (Instr.findAsking 96 (keyV a b) es).run Tryz.prog w := by
  cases es with
  | nil => simp only [Instr.findKey, Sem.run_bind, run_underlying key_under, Result.andThen_ok, Instr.findNow, Instr.findAsking]
  | cons e es =>
    obtain ⟨c, d, h1⟩ := h e (by simp)
    simp only [Instr.findKey, Sem.run_bind, run_underlying key_under, Result.andThen_ok, Instr.findNow, h1, keyV, Instr.sameNow]
/-- An entry is laid whose key is none of the map's. -/
theorem run_insert (w : World) (m a b : Nat) (es : Array MapEntry) (clk : Nat) (v : Value) (hm : w.heap[m]? = some (.map es clk)) (h : ∀ e ∈ es.toList, ∃ c d : Nat, e.key = keyV c d ∧ (a == c && b == d) = false) :
    (Instr.mapUpdate 93 (.map (some m)) (keyV a b) v).run Tryz.prog w = .ok () (Go.ChangeMaps.setBlock w m (.map (es.push { key := keyV a b, val := v, born := clk }) (clk + 1))) := by
  have hc := key_check w false a b
  have hf : (Instr.findKey 96 (keyV a b) es.toList).run Tryz.prog w = .ok none w := by
    rw [find_ask w a b _ (fun e he => by obtain ⟨c, d, h1, _⟩ := h e he; exact ⟨c, d, h1⟩)]
    exact ask_none w a b _ 0 h
  unfold Instr.mapUpdate
  simp only [Sem.run_bind, run_underlying map_under, Result.andThen_ok, MapKept.run_getObj_map hm, show (Instr.checkKey false 10000 96 (keyV a b)).run Tryz.prog w = .ok () w from hc, hf, MapKept.run_setObj_map _ hm]
  rfl
/-- A key that the map has; one that it has not. -/
theorem run_hit (w : World) (m a b : Nat) (es : Array MapEntry) (clk : Nat) (hm : w.heap[m]? = some (.map es clk)) (h : ∀ e ∈ es.toList, ∃ c d : Nat, e.key = keyV c d) (hx : ∃ e ∈ es.toList, e.key = keyV a b) :
    ∃ e ∈ es.toList, e.key = keyV a b ∧ (Instr.lookup 93 (.map (some m)) (keyV a b) true).run Tryz.prog w = .ok (.tuple #[e.val, .bool true]) w := by
  have hc := key_check w es.isEmpty a b
  obtain ⟨e, he, hk, j, hr⟩ := ask_some w a b es.toList 0 h hx
  rw [← find_ask w a b _ h] at hr
  refine ⟨e, he, hk, ?_⟩
  unfold Instr.lookup
  simp only [Sem.run_bind, run_underlying map_under, Result.andThen_ok, MapKept.run_getObj_map hm, Sem.run_pure, show (Instr.checkKey es.isEmpty 10000 96 (keyV a b)).run Tryz.prog w = .ok () w from hc, hr]
  rfl
theorem run_miss (w : World) (m a b : Nat) (es : Array MapEntry) (clk : Nat) (hm : w.heap[m]? = some (.map es clk)) (h : ∀ e ∈ es.toList, ∃ c d : Nat, e.key = keyV c d ∧ (a == c && b == d) = false) :
    (Instr.lookup 93 (.map (some m)) (keyV a b) true).run Tryz.prog w = .ok (.tuple #[.agg #[.int .i64 0, .slice none 0 0], .bool false]) w := by
  have hc := key_check w es.isEmpty a b
  have hf : (Instr.findKey 96 (keyV a b) es.toList).run Tryz.prog w = .ok none w := by
    rw [find_ask w a b _ (fun e he => by obtain ⟨c, d, h1, _⟩ := h e he; exact ⟨c, d, h1⟩)]
    exact ask_none w a b _ 0 h
  have hz : (zeroValue 91).run Tryz.prog w = .ok (.agg #[.int .i64 0, .slice none 0 0]) w := by go_simp
  unfold Instr.lookup
  simp only [Sem.run_bind, run_underlying map_under, Result.andThen_ok, MapKept.run_getObj_map hm, Sem.run_pure, show (Instr.checkKey es.isEmpty 10000 96 (keyV a b)).run Tryz.prog w = .ok () w from hc, hf, hz]
  rfl
/-- Kinds of places of their own, of keys of their own. -/
structure KGood (K : List KRow) : Prop where
  at_ : K.Pairwise fun x y => x.at_ ≠ y.at_
  key : K.Pairwise fun x y => (x.a == y.a && x.b == y.b) = false
theorem pair_inj {α : Type} {R : α → α → Prop} : ∀ {K : List α}, K.Pairwise R → ∀ {x y : α}, x ∈ K → y ∈ K → x = y ∨ R x y ∨ R y x
  | [], _, _, _, h, _ => by simp at h
  | z :: K, h, x, y, hx, hy => by
    obtain ⟨h1, h2⟩ := List.pairwise_cons.1 h
    rcases List.mem_cons.1 hx with ex | hx'
    · rcases List.mem_cons.1 hy with ey | hy'
      · exact .inl (ex.trans ey.symm)
      · exact .inr (.inl (ex ▸ h1 y hy'))
    · rcases List.mem_cons.1 hy with ey | hy'
      · exact .inr (.inr (ey ▸ h1 x hx'))
      · exact pair_inj h2 hx' hy'
theorem KGood.one {K : List KRow} (h : KGood K) {x y : KRow} (hx : x ∈ K) (hy : y ∈ K) (e : x.at_ = y.at_) : x = y := by
  rcases pair_inj h.at_ hx hy with q | q | q
  · exact q
  · exact absurd e q
  · exact absurd e.symm q
theorem KGood.unlike {K : List KRow} (h : KGood K) {x y : KRow} (hx : x ∈ K) (hy : y ∈ K) (e : x ≠ y) : (x.a == y.a && x.b == y.b) = false := by
  rcases pair_inj h.key hx hy with q | q | q
  · exact absurd q e
  · exact q
  · rw [← q, show (x.a == y.a) = (y.a == x.a) from Bool.beq_comm, show (x.b == y.b) = (y.b == x.b) from Bool.beq_comm]
theorem km_insert {Q : Exit → Act → World → Prop} {o : Oper} {a : Act} {w W : World} {E : TypeId} {K : List KRow} {L : Nat → Bool} {ops : Array Oper} {sh : Nat → KShape} {i : Nat} {tm tk tv : Tmp} {k : KRow}
    (hK : KGood K) (hk : k ∈ K) (hi : k.at_ = i) (hdst : o.dst = none) (hop : o.op = .insert 93 (.tmp tm) (.tmp tk) (.tmp tv)) (hL : L i = false)
    (hd : ∀ j d, L j = true → writes ops j d = true → KLeft E W K L (sh j) w (a.tmps[d]?.getD undef)) (hc : ∀ j k, L j = true → waitsAt ops j k = true → L k = true) (g : Grew W w)
    (hmaps : ((List.range ops.size).all fun j => (match sh j with | .inr (.inr (.inr _)) => j == 0 || waitsAt ops j i | _ => true)) = true) (h0 : sh 0 = .inr (.inr (.inr ()))) (hw0 : writes ops 0 tm = true)
    (hm : KLeft E W K L (.inr (.inr (.inr ()))) w (a.tmps[tm]?.getD undef)) (ek : a.tmps[tk]?.getD undef = keyV k.a k.b) (ev : KLeft E W K L (.inr (.inr (.inl (k.len, k.cs)))) w (a.tmps[tv]?.getD undef)) :
    o.wp Tryz.prog a w (fun a' w' => ∃ v, a' = a.put o.dst v ∧ (∀ d, o.dst = some d → KLeft E W K (also L i) (sh i) w' v) ∧ (∀ j d, L j = true → writes ops j d = true → KLeft E W K (also L i) (sh j) w' (a.tmps[d]?.getD undef)) ∧ Grew W w') Q := by
  obtain ⟨m, em, hWm, es, clk, hb, h1, h2⟩ := hm
  obtain ⟨b, n, evv, hn, hcs⟩ := ev
  have hkeys : ∀ e ∈ es.toList, ∃ c d : Nat, e.key = keyV c d ∧ (k.a == c && k.b == d) = false := fun e he => by
    obtain ⟨k', hk', hl, hx, _⟩ := h1 e he
    refine ⟨k'.a, k'.b, hx, hK.unlike hk hk' (fun q => ?_)⟩
    subst q
    rw [hi, hL] at hl
    cases hl
  have hrun := run_insert w m k.a k.b es clk (a.tmps[tv]?.getD undef) hb hkeys
  obtain ⟨w1, hw1⟩ : ∃ w1, Go.ChangeMaps.setBlock w m (.map (es.push { key := keyV k.a k.b, val := a.tmps[tv]?.getD undef, born := clk }) (clk + 1)) = w1 := ⟨_, rfl⟩
  have hnew : w1.heap[m]? = some (.map (es.push { key := keyV k.a k.b, val := a.tmps[tv]?.getD undef, born := clk }) (clk + 1)) := by rw [← hw1]; exact Go.ChangeMaps.heap_setBlock_same hb _
  have hgb : w.grownBy w1 (some m) := by
    rw [← hw1]
    exact ⟨rfl, rfl, rfl, by simp [Go.ChangeMaps.setBlock], fun i _ hi => Go.ChangeMaps.heap_setBlock_other hb _ (fun e => hi (by rw [e]))⟩
  have hkept : KKept w w1 := fun b' cs E' fr h => by
    have hne : b' ≠ m := fun e => by subst e; rw [hb] at h; cases h
    exact (hgb.block b' (Array.getElem?_eq_some_iff.1 h).1 (fun e => hne (by simpa using e))).trans h
  have hG : Grew W w1 := Below.grown g hgb g.size (fun b' hb' => by simp at hb'; subst hb'; exact hWm)
  rw [hw1] at hrun
  have hmap : KMap E W K (also L i) w1 m := by
    refine ⟨hWm, _, _, hnew, fun e he => ?_, fun k' hk' hl => ?_⟩
    · simp only [Array.toList_push, List.mem_append, List.mem_singleton] at he
      rcases he with he | rfl
      · obtain ⟨k', hk', hl, hx⟩ := h1 e he
        exact ⟨k', hk', by unfold also; rw [hl, Bool.or_true], hx.kept hkept⟩
      · exact ⟨k, hk, by unfold also; rw [hi]; simp, rfl, b, n, evv, hn, hkept _ _ _ _ hcs⟩
    · by_cases e : k'.at_ = i
      · obtain rfl := hK.one hk' hk (e.trans hi.symm)
        exact ⟨_, by simp only [Array.toList_push, List.mem_append, List.mem_singleton]; exact .inr rfl, rfl, b, n, evv, hn, hkept _ _ _ _ hcs⟩
      · rw [also_ne e] at hl
        obtain ⟨e', he', hx⟩ := h2 k' hk' hl
        exact ⟨e', by simp only [Array.toList_push, List.mem_append]; exact .inl he', hx.kept hkept⟩
  have hrest : ∀ j d, L j = true → writes ops j d = true → KLeft E W K (also L i) (sh j) w1 (a.tmps[d]?.getD undef) := fun j d hl hw => by
    have hx := hd j d hl hw
    have hjs : j < ops.size := by
      unfold writes at hw
      split at hw
      · cases hw
      · exact (Array.getElem?_eq_some_iff.1 ‹_›).1
    have hmj := List.all_eq_true.1 hmaps j (List.mem_range.2 hjs)
    cases hs : sh j with
    | inl x => rw [hs] at hx; exact hx
    | inr s =>
      cases s with
      | inl cs => rw [hs] at hx; obtain ⟨b, n, q1, q2, q3⟩ := hx; exact ⟨b, n, q1, q2, hkept _ _ _ _ q3⟩
      | inr s =>
        cases s with
        | inl p => rw [hs] at hx; obtain ⟨b, n, q1, q2, q3⟩ := hx; exact ⟨b, n, q1, q2, hkept _ _ _ _ q3⟩
        | inr u =>
          rw [hs] at hmj
          simp only [Bool.or_eq_true, beq_iff_eq] at hmj
          rcases hmj with rfl | hmj
          · have : d = tm := by
              unfold writes at hw hw0
              cases hq : ops[0]? with
              | none => rw [hq] at hw; cases hw
              | some p =>
                rw [hq] at hw hw0
                simp only [beq_iff_eq] at hw hw0
                exact Option.some.inj (hw.symm.trans hw0)
            subst this
            exact ⟨m, em, hmap⟩
          · have := hc j i hl hmj
            rw [hL] at this
            cases this
  have hex : (execOp a.eval o).run Tryz.prog w = .ok .skip w1 := by
    have e1 : a.eval (.tmp tm) = .map (some m) := by simpa [go_sem] using em
    have e2 : a.eval (.tmp tk) = keyV k.a k.b := by simpa [go_sem] using ek
    have e3 : a.eval (.tmp tv) = a.tmps[tv]?.getD undef := by simp [go_sem]
    simp [execOp, hop, e1, e2, e3, hrun, Result.andThen]
  unfold Oper.wp
  rw [hex]
  refine ⟨undef, ?_, fun d hd' => (by rw [hdst] at hd'; cases hd'), hrest, hG⟩
  rw [hdst]
  try rfl
end Go.Proofs.YtnhigfkhdmkoeaaGreatDoor

