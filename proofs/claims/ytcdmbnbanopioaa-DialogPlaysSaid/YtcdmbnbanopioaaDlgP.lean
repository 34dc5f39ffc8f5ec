/-
  The document's dialogue behind a pointer: its commands behind a slice; which is the first, whether one is young, how many are done.
  The document's dialogue: whether one is in flight, how many are done, have failed, are left.
  A dialogue's commands as cells side by side: read off a slice, told by a row of a call's own.
  One command of a dialogue's list is written over.
-/
import Derived.Test.YtcdmbnbanopioaaDlgM
import Derived.Test.YtcdmbnbanopioaaRowK
import Derived.Test.YtcdmbnbanopioaaFar
import Derived.Test.YtcdmbnbanopioaaRowC
import Derived.BigQuiet
namespace Go.Proofs.Ytcdmbnbanopioaa
open Go.RowKit
set_option linter.unusedVariables false

/- The document's dialogue behind a pointer: its commands behind a slice; which is the first, whether one is young, how many are done. -/
/-- A command at an offset of a block: its bytes behind the value v. -/
structure CmdIn (w : World) (b o : Nat) (c : Cmd) (v : Value) : Prop where
  lt : b < w.heap.size
  c0 : w.cell? ⟨b, o, none⟩ = some v
  c1 : w.cell? ⟨b, o + 1, none⟩ = some (.int .u8 (c.wait : Nat))
  c2 : w.cell? ⟨b, o + 2, none⟩ = some (.int .u8 (c.cls : Nat))
  c3 : w.cell? ⟨b, o + 3, none⟩ = some (.int .u8 (c.id : Nat))
  row : Row .u8 w v c.b
  kw : c.wait < 256
  kc : c.cls < 256
  ki : c.id < 256
/-- A command of a dialogue, with what became of it. -/
structure DRowIn (w : World) (b o : Nat) (r : DRow) (v : Value) : Prop where
  cmd : CmdIn w b o r.c v
  c4 : w.cell? ⟨b, o + 4, none⟩ = some (.int .i64 (r.st : Nat))
  c5 : w.cell? ⟨b, o + 5, none⟩ = some (.int .i64 r.sent)
  c6 : w.cell? ⟨b, o + 6, none⟩ = some (.int .i64 (r.many : Nat))
  ks : r.st < 4
  kt : -9223372036854775808 ≤ r.sent ∧ r.sent ≤ 9223372036854775807
  km : r.many ≤ 100
/-- Commands behind a slice value; their bytes lie in blocks of X alone. -/
def DRowsAt (X : Nat → Prop) (w : World) (v : Value) (rs : List DRow) : Prop :=
  ∃ A c, v = .slice A rs.length c ∧ rs.length ≤ c ∧ (0 < rs.length → ∃ b o, A = some ⟨b, o, none⟩ ∧
    ∀ i r, rs[i]? = some r → ∃ fv, DRowIn w b (o + i * 7) r fv ∧ ∀ b, fv.ownBlock = some b → X b)
/-- The document's dialogue in block g: its list's block is not its own, nor one in which bytes lie. -/
structure DlgAt (X : Nat → Prop) (w : World) (g : Nat) (L : Value) (d : Dlg) : Prop where
  lt : g < w.heap.size
  c0 : w.cell? ⟨g, 0, none⟩ = some L
  c1 : w.cell? ⟨g, 1, none⟩ = some (.int .i64 d.tmo)
  c2 : w.cell? ⟨g, 2, none⟩ = some (.int .i64 (d.tries : Nat))
  c3 : w.cell? ⟨g, 3, none⟩ = some (.int .i64 d.now)
  c4 : w.cell? ⟨g, 4, none⟩ = some (.bool d.came)
  f0 : w.frozen? ⟨g, 0, none⟩ = false
  f3 : w.frozen? ⟨g, 3, none⟩ = false
  f4 : w.frozen? ⟨g, 4, none⟩ = false
  rows : DRowsAt X w L d.rows
  own : ∀ b, L.ownBlock = some b → b < w.heap.size ∧ b ≠ g ∧ ¬ X b
  out : ¬ X g
  kl : d.rows.length ≤ 20
  kn : -9223372036854775808 ≤ d.now ∧ d.now ≤ 9223372036854775807
  kt : 100000000 ≤ d.tmo ∧ d.tmo ≤ 10000000000
  kr : 1 ≤ d.tries ∧ d.tries ≤ 8
theorem CmdIn.far {F : Nat → Prop} {w w' : World} {b o : Nat} {c : Cmd} {v : Value} (h : CmdIn w b o c v) (g : Far F w w') (hb : ¬ F b)
    (hv : ∀ b, v.ownBlock = some b → ¬ F b) : CmdIn w' b o c v :=
  ⟨Nat.lt_of_lt_of_le h.lt g.size, (g.cell (p := ⟨b, o, none⟩) h.lt hb).trans h.c0, (g.cell (p := ⟨b, o + 1, none⟩) h.lt hb).trans h.c1,
    (g.cell (p := ⟨b, o + 2, none⟩) h.lt hb).trans h.c2, (g.cell (p := ⟨b, o + 3, none⟩) h.lt hb).trans h.c3, h.row.far g hv, h.kw, h.kc, h.ki⟩
theorem DRowIn.far {F : Nat → Prop} {w w' : World} {b o : Nat} {r : DRow} {v : Value} (h : DRowIn w b o r v) (g : Far F w w') (hb : ¬ F b)
    (hv : ∀ b, v.ownBlock = some b → ¬ F b) : DRowIn w' b o r v :=
  ⟨h.cmd.far g hb hv, (g.cell (p := ⟨b, o + 4, none⟩) h.cmd.lt hb).trans h.c4, (g.cell (p := ⟨b, o + 5, none⟩) h.cmd.lt hb).trans h.c5,
    (g.cell (p := ⟨b, o + 6, none⟩) h.cmd.lt hb).trans h.c6, h.ks, h.kt, h.km⟩
theorem DRowsAt.far {X F : Nat → Prop} {w w' : World} {v : Value} {rs : List DRow} (h : DRowsAt X w v rs) (g : Far F w w')
    (hv : ∀ b, v.ownBlock = some b → ¬ F b) (hX : ∀ b, X b → ¬ F b) : DRowsAt X w' v rs := by
  obtain ⟨A, c, rfl, hc, hr⟩ := h
  refine ⟨A, c, rfl, hc, fun hn => ?_⟩
  obtain ⟨b, o, rfl, hf⟩ := hr hn
  refine ⟨b, o, rfl, fun i r hi => ?_⟩
  obtain ⟨fv, h1, h2⟩ := hf i r hi
  exact ⟨fv, h1.far g (hv b rfl) (fun b hb => hX b (h2 b hb)), h2⟩
theorem DlgAt.far {X F : Nat → Prop} {w w' : World} {g : Nat} {L : Value} {d : Dlg} (h : DlgAt X w g L d) (k : Far F w w') (hg : ¬ F g)
    (hL : ∀ b, L.ownBlock = some b → ¬ F b) (hX : ∀ b, X b → ¬ F b) : DlgAt X w' g L d :=
  ⟨Nat.lt_of_lt_of_le h.lt k.size, (k.cell (p := ⟨g, 0, none⟩) h.lt hg).trans h.c0, (k.cell (p := ⟨g, 1, none⟩) h.lt hg).trans h.c1,
    (k.cell (p := ⟨g, 2, none⟩) h.lt hg).trans h.c2, (k.cell (p := ⟨g, 3, none⟩) h.lt hg).trans h.c3, (k.cell (p := ⟨g, 4, none⟩) h.lt hg).trans h.c4,
    (k.frozen (p := ⟨g, 0, none⟩) h.lt hg).trans h.f0, (k.frozen (p := ⟨g, 3, none⟩) h.lt hg).trans h.f3, (k.frozen (p := ⟨g, 4, none⟩) h.lt hg).trans h.f4,
    h.rows.far k hL hX, fun b hb => ⟨Nat.lt_of_lt_of_le (h.own b hb).1 k.size, (h.own b hb).2⟩, h.out, h.kl, h.kn, h.kt, h.kr⟩
theorem DlgAt.grew {X : Nat → Prop} {w w' : World} {g : Nat} {L : Value} {d : Dlg} (h : DlgAt X w g L d) (k : Grew w w') : DlgAt X w' g L d :=
  h.far (F := fun _ => False) (Far.of_grew k) (fun h => h) (fun _ _ h => h) (fun _ _ h => h)
/-- What first tells. -/
def firstInt (rs : List DRow) : Int := if firstOf rs < rs.length then (firstOf rs : Nat) else -1

set_option maxRecDepth 100000 in
set_option maxHeartbeats 2000000 in
theorem ref14_first (X : Nat → Prop) (g : Nat) (L : Value) (d : Dlg) (w : World) (h : DlgAt X w g L d) :
    Calls Try.prog 29 #[.pointer (some ⟨g, 0, none⟩)] w fun e w' => e = .returned (.int .i64 (firstInt d.rows)) ∧ w = w' := by
  obtain ⟨lt, c0, c1, c2, c3, c4, f0, f3, f4, ⟨A, c, rfl, hc, hr⟩, own, out, kl, kn, kt, kr⟩ := h
  have HR := Lib.hid hr
  clear hr own kn kt kr c1 c2 c3 c4 f0 f3 f4
  generalize hrs : d.rows = rs at *
  go_enter Try.func29, Try.ntmps29
  go_wp2_with fail
  go_loop [3] (fun i => ∃ k : Nat, k ≤ rs.length ∧ i = .int .i64 (k : Nat) ∧ Hid (∀ j r, rs[j]? = some r → j < k → 2 ≤ r.st)) (fun i => rs.length - (intOf i).toNat)
  case atStart => exact ⟨0, Nat.zero_le _, rfl, Lib.hid (fun j r _ h => absurd h (Nat.not_lt_zero _))⟩
  case round =>
    obtain ⟨k, hk, rfl, HA⟩ := hrel
    by_cases hlt : k < rs.length
    · obtain ⟨b, o, rfl, hf⟩ := HR.out (by omega)
      obtain ⟨fv, hd, _⟩ := hf k _ (List.getElem?_eq_getElem hlt)
      have hx := hd.c4
      have hw := hd.cmd.lt
      have hs := hd.ks
      obtain ⟨s, HS⟩ : ∃ s, Hid (rs[k].st = s) := ⟨_, Lib.hid rfl⟩
      rw [HS.out] at hx hs
      clear hf hd
      by_cases h2 : s < 2
      · go_wp2_with fail
        go_ret
        have e := first_of rs k hlt (fun j hj => HA.out j _ (List.getElem?_eq_getElem (by omega)) hj) (by rw [HS.out]; exact h2)
        exact ⟨by rw [firstInt, e, if_pos hlt]; rfl, rfl⟩
      · go_wp2_with fail
        go_round
        case rel => exact ⟨k + 1, by omega, by go_num, Lib.hid (fun j r hj hk => by
          by_cases e : j = k
          · subst e; rw [List.getElem?_eq_getElem hlt] at hj; cases hj; rw [HS.out]; omega
          · exact HA.out j r hj (by omega))⟩
        case measure => simp [intOf]; omega
    · obtain rfl : k = rs.length := by omega
      go_wp2_with fail
      go_ret
      have e := first_all rs (fun j hj => HA.out j _ (List.getElem?_eq_getElem hj) hj)
      exact ⟨by rw [firstInt, e, if_neg (Nat.lt_irrefl _)]; rfl, rfl⟩

set_option maxRecDepth 100000 in
set_option maxHeartbeats 2000000 in
theorem ref14_young (X : Nat → Prop) (g : Nat) (L : Value) (d : Dlg) (w : World) (h : DlgAt X w g L d) (sent : Int) (hs : -9223372036854775808 ≤ sent ∧ sent ≤ d.now) :
    Calls Try.prog 30 #[.pointer (some ⟨g, 0, none⟩), .int .i64 sent] w fun e w' => e = .returned (.bool (decide (d.now - sent < d.tmo))) ∧ Grew w w' := by
  obtain ⟨lt, c0, c1, c2, c3, c4, f0, f3, f4, hrows, own, out, kl, kn, kt, kr⟩ := h
  generalize d.now = n at *
  generalize d.tmo = t at *
  clear hrows own kr c0 c2 c4 f0 f3 f4 kl out
  have HK : ∀ w', Grew w w' → g < w'.heap.size ∧ w'.cell? ⟨g, 3, none⟩ = some (.int .i64 n) := fun w' G => ⟨Nat.lt_of_lt_of_le lt G.size, (G.cell (p := ⟨g, 3, none⟩) lt).trans c3⟩
  replace HK := Lib.hid HK
  go_enter Try.func30, Try.ntmps30
  go_wp2_with fail
  go_quiet (fail)
  have G := (Grew.refl w).drewN nq
  generalize w.drewN nq = w1 at G ⊢
  obtain ⟨lt1, d3⟩ := HK.out _ G
  obtain ⟨W, hW⟩ : ∃ W, wrap64 (n - t) = W := ⟨_, rfl⟩
  rw [hW]
  have hw : (n < W ∨ W < sent) ↔ n - sent < t := by unfold wrap64 at hW; omega
  have HW := Lib.hid hw
  clear hw hW
  have HP : ∀ b : Bool, (b = true ↔ (n < W ∨ W < sent)) → Ending.returned (.bool b) = .returned (.bool (decide (n - sent < t))) := fun b hb => by
    have e : b = decide (n - sent < t) := by rw [Bool.eq_iff_iff, hb, HW.out, decide_eq_true_iff]
    rw [e]
  replace HP := Lib.hid HP
  go_wp2_with fail
  · go_ret
    exact ⟨HP.out _ (by rw [Bool.or_eq_true, decide_eq_true_iff, decide_eq_true_iff]), G⟩
  · rename_i h
    go_ret
    exact ⟨HP.out true ⟨fun _ => .inl h, fun _ => rfl⟩, G⟩
/- The document's dialogue: whether one is in flight, how many are done, have failed, are left. -/
/-- A row's place in the list. -/
theorem DRowsAt.at_ {X : Nat → Prop} {w : World} {v : Value} {rs : List DRow} (h : DRowsAt X w v rs) (i : Nat) (hi : i < rs.length) :
    ∃ b o c fv, v = .slice (some ⟨b, o, none⟩) rs.length c ∧ rs.length ≤ c ∧ DRowIn w b (o + i * 7) rs[i] fv ∧ ∀ b, fv.ownBlock = some b → X b := by
  obtain ⟨A, c, rfl, hc, hr⟩ := h
  obtain ⟨b, o, rfl, hf⟩ := hr (by omega)
  obtain ⟨fv, h1, h2⟩ := hf i _ (List.getElem?_eq_getElem hi)
  exact ⟨b, o, c, fv, rfl, hc, h1, h2⟩

set_option maxRecDepth 100000 in
set_option maxHeartbeats 2000000 in
theorem ref14_Flying (X : Nat → Prop) (g : Nat) (L : Value) (d : Dlg) (w : World) (h : DlgAt X w g L d) :
    Calls Try.prog 19 #[.pointer (some ⟨g, 0, none⟩)] w fun e w' => e = .returned (.bool (flyOf d.rows)) ∧ w = w' := by
  have H1 := Lib.hid (ref14_first X g L d w h)
  have lt := h.lt
  have c0 := h.c0
  have kl := h.kl
  have hr := h.rows
  clear h
  generalize d.rows = rs at *
  by_cases hf : firstOf rs < rs.length
  · obtain ⟨b, o, c, fv, rfl, hc, hd, _⟩ := hr.at_ _ hf
    have e1 : firstInt rs = (firstOf rs : Nat) := by rw [firstInt, if_pos hf]
    have HP := Lib.hid (fly_at rs hf)
    rw [e1] at H1
    have hx := hd.c4
    have hw := hd.cmd.lt
    have hs := hd.ks
    generalize rs[firstOf rs].st = s at *
    generalize firstOf rs = k at *
    clear hd hr
    go_enter Try.func19, Try.ntmps19
    go_wp2_with (first | (go_at_call 29; refine H1.out.mono ?_; rintro e w' ⟨rfl, rfl⟩))
    have e : ((s : Int) == 1) = decide (s = 1) := by rw [Bool.eq_iff_iff, beq_iff_eq, decide_eq_true_iff]; omega
    rw [e]
    go_ret
    exact ⟨by rw [HP.out]; rfl, rfl⟩
  · have e1 : firstInt rs = -1 := by rw [firstInt, if_neg hf]
    have HP := Lib.hid (fly_all rs (by have := first_le rs; omega))
    rw [e1] at H1
    go_enter Try.func19, Try.ntmps19
    go_wp2_with (first | (go_at_call 29; refine H1.out.mono ?_; rintro e w' ⟨rfl, rfl⟩))
    go_ret
    exact ⟨by rw [HP.out]; rfl, rfl⟩

/-- How many of the list are in a state. -/
def stCount (s : Nat) : List DRow → Nat
  | [] => 0
  | r :: rs => stCount s rs + if r.st = s then 1 else 0
theorem stCount_append (s : Nat) : ∀ l m : List DRow, stCount s (l ++ m) = stCount s l + stCount s m
  | [], m => (Nat.zero_add _).symm
  | r :: l, m => by rw [List.cons_append, stCount, stCount, stCount_append s l m]; omega
theorem stCount_le (s : Nat) : ∀ l : List DRow, stCount s l ≤ l.length
  | [] => Nat.le_refl _
  | r :: l => by rw [stCount]; have h := stCount_le s l; split <;> simp only [List.length_cons] <;> omega
theorem stCount_take (s : Nat) (l : List DRow) (k : Nat) (h : k < l.length) :
    stCount s (l.take (k + 1)) = stCount s (l.take k) + if l[k].st = s then 1 else 0 := by
  rw [List.take_succ_eq_append_getElem h, stCount_append]; simp [stCount]
theorem st_sums : ∀ l : List DRow, doneOf l = stCount 2 l ∧ lostOf l = stCount 3 l ∧ leftOf l = stCount 0 l + stCount 1 l
  | [] => ⟨rfl, rfl, rfl⟩
  | r :: l => by
    obtain ⟨h1, h2, h3⟩ := st_sums l
    rw [doneOf, lostOf, leftOf, h1, h2, h3]
    simp only [stCount]
    refine ⟨trivial, trivial, ?_⟩
    by_cases e0 : r.st = 0
    · simp [e0]; omega
    · by_cases e1 : r.st = 1
      · simp [e1]; omega
      · rw [if_neg (by omega), if_neg e0, if_neg e1]; omega

/-- Four numbers in a variable of the call's own. -/
structure FourAt (w : World) (b n0 n1 n2 n3 : Nat) : Prop where
  lt : b < w.heap.size
  c0 : w.cell? ⟨b, 0, none⟩ = some (.int .i64 (n0 : Nat))
  c1 : w.cell? ⟨b, 1, none⟩ = some (.int .i64 (n1 : Nat))
  c2 : w.cell? ⟨b, 2, none⟩ = some (.int .i64 (n2 : Nat))
  c3 : w.cell? ⟨b, 3, none⟩ = some (.int .i64 (n3 : Nat))
  f0 : w.frozen? ⟨b, 0, none⟩ = false
  f1 : w.frozen? ⟨b, 1, none⟩ = false
  f2 : w.frozen? ⟨b, 2, none⟩ = false
  f3 : w.frozen? ⟨b, 3, none⟩ = false

theorem FourAt.put0 {w : World} {b n0 n1 n2 n3 : Nat} (h : FourAt w b n0 n1 n2 n3) :
    FourAt (w.setCell ⟨b, 0, none⟩ (.int .i64 ((n0 : Int) + 1))) b (n0 + 1) n1 n2 n3 := by
  have ne : ∀ {i j : Nat}, i ≠ j → (⟨b, i, none⟩ : Addr) ≠ ⟨b, j, none⟩ := fun hj e => hj (by injection e)
  exact ⟨by simpa [World.setCell] using h.lt, World.cell?_setCell_same _ _ _ h.c0, (World.cell?_setCell_other _ _ _ _ (ne (by omega))).trans h.c1, (World.cell?_setCell_other _ _ _ _ (ne (by omega))).trans h.c2, (World.cell?_setCell_other _ _ _ _ (ne (by omega))).trans h.c3,
    by simpa [go_sem] using h.f0, by simpa [go_sem] using h.f1, by simpa [go_sem] using h.f2, by simpa [go_sem] using h.f3⟩
theorem FourAt.put1 {w : World} {b n0 n1 n2 n3 : Nat} (h : FourAt w b n0 n1 n2 n3) :
    FourAt (w.setCell ⟨b, 1, none⟩ (.int .i64 ((n1 : Int) + 1))) b n0 (n1 + 1) n2 n3 := by
  have ne : ∀ {i j : Nat}, i ≠ j → (⟨b, i, none⟩ : Addr) ≠ ⟨b, j, none⟩ := fun hj e => hj (by injection e)
  exact ⟨by simpa [World.setCell] using h.lt, (World.cell?_setCell_other _ _ _ _ (ne (by omega))).trans h.c0, World.cell?_setCell_same _ _ _ h.c1, (World.cell?_setCell_other _ _ _ _ (ne (by omega))).trans h.c2, (World.cell?_setCell_other _ _ _ _ (ne (by omega))).trans h.c3,
    by simpa [go_sem] using h.f0, by simpa [go_sem] using h.f1, by simpa [go_sem] using h.f2, by simpa [go_sem] using h.f3⟩
theorem FourAt.put2 {w : World} {b n0 n1 n2 n3 : Nat} (h : FourAt w b n0 n1 n2 n3) :
    FourAt (w.setCell ⟨b, 2, none⟩ (.int .i64 ((n2 : Int) + 1))) b n0 n1 (n2 + 1) n3 := by
  have ne : ∀ {i j : Nat}, i ≠ j → (⟨b, i, none⟩ : Addr) ≠ ⟨b, j, none⟩ := fun hj e => hj (by injection e)
  exact ⟨by simpa [World.setCell] using h.lt, (World.cell?_setCell_other _ _ _ _ (ne (by omega))).trans h.c0, (World.cell?_setCell_other _ _ _ _ (ne (by omega))).trans h.c1, World.cell?_setCell_same _ _ _ h.c2, (World.cell?_setCell_other _ _ _ _ (ne (by omega))).trans h.c3,
    by simpa [go_sem] using h.f0, by simpa [go_sem] using h.f1, by simpa [go_sem] using h.f2, by simpa [go_sem] using h.f3⟩
theorem FourAt.put3 {w : World} {b n0 n1 n2 n3 : Nat} (h : FourAt w b n0 n1 n2 n3) :
    FourAt (w.setCell ⟨b, 3, none⟩ (.int .i64 ((n3 : Int) + 1))) b n0 n1 n2 (n3 + 1) := by
  have ne : ∀ {i j : Nat}, i ≠ j → (⟨b, i, none⟩ : Addr) ≠ ⟨b, j, none⟩ := fun hj e => hj (by injection e)
  exact ⟨by simpa [World.setCell] using h.lt, (World.cell?_setCell_other _ _ _ _ (ne (by omega))).trans h.c0, (World.cell?_setCell_other _ _ _ _ (ne (by omega))).trans h.c1, (World.cell?_setCell_other _ _ _ _ (ne (by omega))).trans h.c2, World.cell?_setCell_same _ _ _ h.c3,
    by simpa [go_sem] using h.f0, by simpa [go_sem] using h.f1, by simpa [go_sem] using h.f2, by simpa [go_sem] using h.f3⟩

set_option maxRecDepth 100000 in
set_option maxHeartbeats 2000000 in
theorem ref14_Counts (X : Nat → Prop) (g : Nat) (L : Value) (d : Dlg) (w : World) (h : DlgAt X w g L d) :
    Calls Try.prog 17 #[.pointer (some ⟨g, 0, none⟩)] w fun e w' => e = .returned (.tuple #[.int .i64 (doneOf d.rows : Nat), .int .i64 (lostOf d.rows : Nat), .int .i64 (leftOf d.rows : Nat)]) ∧ Grew w w' := by
  have lt := h.lt
  have kl := h.kl
  have HK := Lib.hid (fun w' (G : Grew w w') => (⟨Nat.lt_of_lt_of_le h.lt G.size, (h.grew G).c0, (h.grew G).rows⟩ : g < w'.heap.size ∧ w'.cell? ⟨g, 0, none⟩ = some L ∧ DRowsAt X w' L d.rows))
  obtain ⟨A, c, eL, hc, _⟩ := h.rows
  subst eL
  clear h
  generalize d.rows = rs at *
  obtain ⟨hs0, hs1, hs2⟩ := st_sums rs
  have HS := Lib.hid (⟨hs0, hs1, hs2⟩ : _ ∧ _ ∧ _)
  clear hs0 hs1 hs2
  go_enter Try.func17, Try.ntmps17
  go_wp2_with fail
  go_loopw [6] (fun i wr => ∃ k n0 n1 n2 n3 : Nat, k ≤ rs.length ∧ i = .int .i64 (k : Nat) ∧ Hid (n0 = stCount 0 (rs.take k)) ∧ Hid (n1 = stCount 1 (rs.take k)) ∧ Hid (n2 = stCount 2 (rs.take k)) ∧ Hid (n3 = stCount 3 (rs.take k)) ∧ FourAt wr w.heap.size n0 n1 n2 n3 ∧ Grew w wr) (fun i _ => rs.length - (intOf i).toNat)
  case atStart =>
    refine ⟨0, 0, 0, 0, 0, Nat.zero_le _, rfl, Lib.hid rfl, Lib.hid rfl, Lib.hid rfl, Lib.hid rfl, ?_, ?_⟩
    · exact ⟨by simp, by simp [go_sem], by simp [go_sem], by simp [go_sem], by simp [go_sem], by simp [go_sem], by simp [go_sem], by simp [go_sem], by simp [go_sem]⟩
    · exact (Grew.refl w).alloc _
  case round =>
    obtain ⟨k, n0, n1, n2, n3, hk, rfl, E0, E1, E2, E3, ⟨ltB, q0, q1, q2, q3, z0, z1, z2, z3⟩, G⟩ := hrel
    obtain ⟨ltg, c0, hr⟩ := HK.out _ G
    have hb0 : n0 ≤ 20 := by rw [E0.out]; exact Nat.le_trans (stCount_le _ _) (by rw [List.length_take]; omega)
    have hb1 : n1 ≤ 20 := by rw [E1.out]; exact Nat.le_trans (stCount_le _ _) (by rw [List.length_take]; omega)
    have hb2 : n2 ≤ 20 := by rw [E2.out]; exact Nat.le_trans (stCount_le _ _) (by rw [List.length_take]; omega)
    have hb3 : n3 ≤ 20 := by rw [E3.out]; exact Nat.le_trans (stCount_le _ _) (by rw [List.length_take]; omega)
    by_cases hlt : k < rs.length
    · obtain ⟨b, o, c', fv, eL, _, hd, _⟩ := hr.at_ k hlt
      cases eL
      have hx := hd.c4
      have hw := hd.cmd.lt
      have hs := hd.ks
      obtain ⟨s, HSt⟩ : ∃ s, Hid (rs[k].st = s) := ⟨_, Lib.hid rfl⟩
      rw [HSt.out] at hx hs
      clear hd hr
      have T0 := Lib.hid (stCount_take 0 rs k hlt)
      have T1 := Lib.hid (stCount_take 1 rs k hlt)
      have T2 := Lib.hid (stCount_take 2 rs k hlt)
      have T3 := Lib.hid (stCount_take 3 rs k hlt)
      have hk20 : k < 20 := by omega
      match s, hs with
      | 0, _ =>
        go_wp2_with fail
        go_round
        case rel => exact ⟨k + 1, n0 + 1, n1, n2, n3, by omega, rfl, Lib.hid (by rw [T0.out, HSt.out, ← E0.out]; rfl), Lib.hid (by rw [T1.out, HSt.out, ← E1.out]; rfl), Lib.hid (by rw [T2.out, HSt.out, ← E2.out]; rfl), Lib.hid (by rw [T3.out, HSt.out, ← E3.out]; rfl), FourAt.put0 ⟨ltB, q0, q1, q2, q3, z0, z1, z2, z3⟩, G.setCell (Nat.le_refl _) _⟩
        case measure => simp [intOf]; omega
      | 1, _ =>
        go_wp2_with fail
        go_round
        case rel => exact ⟨k + 1, n0, n1 + 1, n2, n3, by omega, rfl, Lib.hid (by rw [T0.out, HSt.out, ← E0.out]; rfl), Lib.hid (by rw [T1.out, HSt.out, ← E1.out]; rfl), Lib.hid (by rw [T2.out, HSt.out, ← E2.out]; rfl), Lib.hid (by rw [T3.out, HSt.out, ← E3.out]; rfl), FourAt.put1 ⟨ltB, q0, q1, q2, q3, z0, z1, z2, z3⟩, G.setCell (Nat.le_refl _) _⟩
        case measure => simp [intOf]; omega
      | 2, _ =>
        go_wp2_with fail
        go_round
        case rel => exact ⟨k + 1, n0, n1, n2 + 1, n3, by omega, rfl, Lib.hid (by rw [T0.out, HSt.out, ← E0.out]; rfl), Lib.hid (by rw [T1.out, HSt.out, ← E1.out]; rfl), Lib.hid (by rw [T2.out, HSt.out, ← E2.out]; rfl), Lib.hid (by rw [T3.out, HSt.out, ← E3.out]; rfl), FourAt.put2 ⟨ltB, q0, q1, q2, q3, z0, z1, z2, z3⟩, G.setCell (Nat.le_refl _) _⟩
        case measure => simp [intOf]; omega
      | 3, _ =>
        go_wp2_with fail
        go_round
        case rel => exact ⟨k + 1, n0, n1, n2, n3 + 1, by omega, rfl, Lib.hid (by rw [T0.out, HSt.out, ← E0.out]; rfl), Lib.hid (by rw [T1.out, HSt.out, ← E1.out]; rfl), Lib.hid (by rw [T2.out, HSt.out, ← E2.out]; rfl), Lib.hid (by rw [T3.out, HSt.out, ← E3.out]; rfl), FourAt.put3 ⟨ltB, q0, q1, q2, q3, z0, z1, z2, z3⟩, G.setCell (Nat.le_refl _) _⟩
        case measure => simp [intOf]; omega
    · obtain rfl : k = rs.length := by omega
      go_wp2_with fail
      go_quiet (fail)
      have G2 := G.drewN nq
      go_wp2_with fail
      refine bodyPost_ret (by simp [results, Try.results17, go_sem]; try rfl) rfl ?_
      rw [HS.out.1, HS.out.2.1, HS.out.2.2]
      have et : rs.take rs.length = rs := List.take_length
      rw [et] at E0 E1 E2 E3
      exact ⟨by rw [← E0.out, ← E1.out, ← E2.out, ← E3.out]; rfl, G2⟩
/- A dialogue's commands as cells side by side: read off a slice, told by a row of a call's own. -/
def rowCells (r : DRow) (v : Value) : List Value :=
  [v, .int .u8 (r.c.wait : Nat), .int .u8 (r.c.cls : Nat), .int .u8 (r.c.id : Nat), .int .i64 (r.st : Nat), .int .i64 r.sent, .int .i64 (r.many : Nat)]
def flatC : List DRow → List Value → List Value
  | r :: rs, v :: vs => rowCells r v ++ flatC rs vs
  | _, _ => []
theorem flatC_length : ∀ (rs : List DRow) (vs : List Value), vs.length = rs.length → (flatC rs vs).length = rs.length * 7
  | [], [], _ => rfl
  | r :: rs, v :: vs, h => by
    have ih := flatC_length rs vs (by simpa using h)
    rw [flatC, List.length_append, ih, List.length_cons, show (rowCells r v).length = 7 from rfl]; omega
  | [], _ :: _, h => by simp at h
  | _ :: _, [], h => by simp at h
theorem flatC_get : ∀ (rs : List DRow) (vs : List Value) (i j : Nat) (r : DRow) (v : Value), rs[i]? = some r → vs[i]? = some v → j < 7 →
    (flatC rs vs)[i * 7 + j]? = (rowCells r v)[j]?
  | [], vs, i, j, r, v, h, _, _ => by simp at h
  | _ :: _, [], i, j, r, v, _, h, _ => by simp at h
  | r' :: rs, v' :: vs, 0, j, r, v, h, h2, hj => by
    simp only [List.getElem?_cons_zero, Option.some.injEq] at h h2
    subst h h2
    rw [flatC, List.getElem?_append_left (by show 0 * 7 + j < 7; omega), Nat.zero_mul, Nat.zero_add]
  | r' :: rs, v' :: vs, i + 1, j, r, v, h, h2, hj => by
    rw [flatC, List.getElem?_append_right (by show 7 ≤ (i + 1) * 7 + j; omega), show (i + 1) * 7 + j - (rowCells r' v').length = i * 7 + j from by show (i + 1) * 7 + j - 7 = _; omega]
    exact flatC_get rs vs i j r v (by simpa using h) (by simpa using h2) hj
/-- A command's bytes and bounds. -/
structure RowOk (X : Nat → Prop) (w : World) (r : DRow) (v : Value) : Prop where
  row : Row .u8 w v r.c.b
  out : ∀ b, v.ownBlock = some b → X b
  kw : r.c.wait < 256
  kc : r.c.cls < 256
  ki : r.c.id < 256
  ks : r.st < 4
  kt : -9223372036854775808 ≤ r.sent ∧ r.sent ≤ 9223372036854775807
  km : r.many ≤ 100
theorem RowOk.far {X F : Nat → Prop} {w w' : World} {r : DRow} {v : Value} (h : RowOk X w r v) (g : Far F w w') (hX : ∀ b, X b → ¬ F b) : RowOk X w' r v :=
  ⟨h.row.far g (fun b hb => hX b (h.out b hb)), h.out, h.kw, h.kc, h.ki, h.ks, h.kt, h.km⟩
/-- What stands behind a slice of commands, and their bytes. -/
theorem DRowsAt.flat {X : Nat → Prop} {w : World} {v : Value} {rs : List DRow} (h : DRowsAt X w v rs) :
    ∃ vs, vs.length = rs.length ∧ CellsAt w 7 v rs.length (flatC rs vs) ∧ ∀ (i : Nat) (r : DRow) (fv : Value), rs[i]? = some r → vs[i]? = some fv → RowOk X w r fv := by
  obtain ⟨A, c, rfl, hc, hr⟩ := h
  rcases Nat.eq_zero_or_pos rs.length with h0 | hp
  · obtain rfl := List.eq_nil_of_length_eq_zero h0
    exact ⟨[], rfl, ⟨rfl, A, c, rfl, hc, fun h => absurd h (Nat.lt_irrefl _)⟩, fun i r fv h => by simp at h⟩
  · obtain ⟨b, o, rfl, hf⟩ := hr hp
    have hall : ∀ i : Fin rs.length, ∃ fv, DRowIn w b (o + i.1 * 7) rs[i.1] fv ∧ ∀ b, fv.ownBlock = some b → X b := fun i =>
      hf i.1 _ (List.getElem?_eq_getElem i.2)
    obtain ⟨f, hf⟩ := Classical.axiomOfChoice hall
    have hl : (List.ofFn f).length = rs.length := List.length_ofFn
    have hget : ∀ (i : Nat) (r : DRow) (fv : Value), rs[i]? = some r → (List.ofFn f)[i]? = some fv → DRowIn w b (o + i * 7) r fv ∧ ∀ b, fv.ownBlock = some b → X b := by
      intro i r fv h1 h2
      obtain ⟨hi, rfl⟩ := List.getElem?_eq_some_iff.1 h1
      obtain ⟨hi2, rfl⟩ := List.getElem?_eq_some_iff.1 h2
      rw [List.getElem_ofFn]
      exact hf ⟨i, hi⟩
    refine ⟨List.ofFn f, hl, ⟨flatC_length _ _ hl, _, c, rfl, hc, fun _ => ⟨b, o, rfl, (hf ⟨0, hp⟩).1.cmd.lt, ?_⟩⟩, ?_⟩
    · intro k x hk
      have hk2 : k < rs.length * 7 := by rw [← flatC_length _ _ hl]; exact (List.getElem?_eq_some_iff.1 hk).1
      have hi : k / 7 < rs.length := by omega
      have hj : k % 7 < 7 := by omega
      have e1 := List.getElem?_eq_getElem hi
      have e2 := List.getElem?_eq_getElem (show k / 7 < (List.ofFn f).length by omega)
      have e := flatC_get rs (List.ofFn f) (k / 7) (k % 7) _ _ e1 e2 hj
      rw [show k / 7 * 7 + k % 7 = k by omega, hk] at e
      have hd := (hget _ _ _ e1 e2).1
      generalize rs[k / 7] = r at *
      generalize (List.ofFn f)[k / 7] = fv at *
      obtain ⟨q, hq⟩ : ∃ q, k / 7 = q := ⟨_, rfl⟩
      obtain ⟨t, ht⟩ : ∃ t, k % 7 = t := ⟨_, rfl⟩
      rw [hq] at hd
      rw [ht] at e hj
      rw [show o + k = o + q * 7 + t by omega]
      match t, hj with
      | 0, _ => cases e; exact hd.cmd.c0
      | 1, _ => cases e; exact hd.cmd.c1
      | 2, _ => cases e; exact hd.cmd.c2
      | 3, _ => cases e; exact hd.cmd.c3
      | 4, _ => cases e; exact hd.c4
      | 5, _ => cases e; exact hd.c5
      | 6, _ => cases e; exact hd.c6
    · intro i r fv h1 h2
      obtain ⟨hd, hX⟩ := hget i r fv h1 h2
      exact ⟨hd.cmd.row, hX, hd.cmd.kw, hd.cmd.kc, hd.cmd.ki, hd.ks, hd.kt, hd.km⟩
theorem DRowsAt.of_flat {X : Nat → Prop} {w : World} {v : Value} {rs : List DRow} {vs : List Value} (hl : vs.length = rs.length)
    (h : CellsAt w 7 v rs.length (flatC rs vs)) (hk : ∀ (i : Nat) (r : DRow) (fv : Value), rs[i]? = some r → vs[i]? = some fv → RowOk X w r fv) : DRowsAt X w v rs := by
  obtain ⟨_, A, c, rfl, hc, hr⟩ := h
  refine ⟨A, c, rfl, hc, fun hp => ?_⟩
  obtain ⟨b, o, rfl, hb, hcell⟩ := hr hp
  refine ⟨b, o, rfl, fun i r hi => ?_⟩
  have hi2 := (List.getElem?_eq_some_iff.1 hi).1
  have e2 := List.getElem?_eq_getElem (show i < vs.length by omega)
  obtain ⟨row, hX, kw, kc, ki, ks, kt, km⟩ := hk i r _ hi e2
  have hg : ∀ j x, j < 7 → (rowCells r vs[i])[j]? = some x → w.cell? ⟨b, o + i * 7 + j, none⟩ = some x := fun j x hj hx => by
    rw [Nat.add_assoc]
    exact hcell _ _ ((flatC_get rs vs i j r _ hi e2 hj).trans hx)
  exact ⟨vs[i], ⟨⟨hb, hg 0 _ (by omega) rfl, hg 1 _ (by omega) rfl, hg 2 _ (by omega) rfl, hg 3 _ (by omega) rfl, row, kw, kc, ki⟩,
    hg 4 _ (by omega) rfl, hg 5 _ (by omega) rfl, hg 6 _ (by omega) rfl, ks, kt, km⟩, hX⟩
theorem flatC_one (rs : List DRow) (vs : List Value) (hs : ∀ v ∈ vs, v.oneCell' = true) : ∀ x ∈ flatC rs vs, x.oneCell' = true := by
  induction rs generalizing vs with
  | nil => intro x h; simp [flatC] at h
  | cons r rs ih =>
    cases vs with
    | nil => intro x h; simp [flatC] at h
    | cons v vs =>
      intro x h
      rw [flatC, List.mem_append] at h
      rcases h with h | h
      · simp only [rowCells, List.mem_cons, List.not_mem_nil, or_false] at h
        rcases h with rfl | rfl | rfl | rfl | rfl | rfl | rfl
        · exact hs _ (by simp)
        all_goals rfl
      · exact ih vs (fun v hv => hs v (by simp [hv])) x h
theorem flatC_set : ∀ (rs : List DRow) (vs : List Value) (i : Nat) (r : DRow) (v : Value), vs.length = rs.length → i < rs.length → vs[i]? = some v →
    ∀ k, (flatC (rs.set i r) vs)[k]? = if i * 7 ≤ k ∧ k < i * 7 + 7 then (rowCells r v)[k - i * 7]? else (flatC rs vs)[k]?
  | [], _, i, r, v, _, h, _, k => absurd h (Nat.not_lt_zero _)
  | _ :: _, [], i, r, v, h, _, _, k => by simp at h
  | r' :: rs, v' :: vs, 0, r, v, hl, hi, hv, k => by
    simp only [List.getElem?_cons_zero, Option.some.injEq] at hv
    subst hv
    simp only [List.set_cons_zero, flatC]
    by_cases hk : k < 7
    · rw [if_pos (by omega), List.getElem?_append_left (by exact hk)]; simp
    · rw [if_neg (by omega), List.getElem?_append_right (by show 7 ≤ k; omega), List.getElem?_append_right (by show 7 ≤ k; omega)]; rfl
  | r' :: rs, v' :: vs, i + 1, r, v, hl, hi, hv, k => by
    simp only [List.set_cons_succ, flatC]
    by_cases hk : k < 7
    · rw [if_neg (by omega), List.getElem?_append_left (by exact hk), List.getElem?_append_left (by exact hk)]
    · rw [List.getElem?_append_right (by show 7 ≤ k; omega), List.getElem?_append_right (by show 7 ≤ k; omega)]
      have ih := flatC_set rs vs i r v (by simpa using hl) (by simpa using hi) (by simpa using hv) (k - 7)
      have e : ∀ x y, k - (rowCells x y).length = k - 7 := fun _ _ => rfl
      rw [e, ih]
      by_cases hh : i * 7 ≤ k - 7 ∧ k - 7 < i * 7 + 7
      · rw [if_pos hh, if_pos (by omega), show k - 7 - i * 7 = k - (i + 1) * 7 by omega]
      · rw [if_neg hh, if_neg (by omega)]
/- One command of a dialogue's list is written over. -/
def putRow (w : World) (b o : Nat) (x0 x1 x2 x3 x4 x5 x6 : Value) : World := ((((((w.setCell ⟨b, o, none⟩ x0).setCell ⟨b, o + 1, none⟩ x1).setCell ⟨b, o + 2, none⟩ x2).setCell ⟨b, o + 3, none⟩ x3).setCell ⟨b, o + 4, none⟩ x4).setCell ⟨b, o + 5, none⟩ x5).setCell ⟨b, o + 6, none⟩ x6
theorem putRow_0 {w : World} {b o : Nat} {x0 x1 x2 x3 x4 x5 x6 y : Value} (h : w.cell? ⟨b, o, none⟩ = some y) : (putRow w b o x0 x1 x2 x3 x4 x5 x6).cell? ⟨b, o, none⟩ = some x0 := by
  have ne : ∀ i j : Nat, i ≠ j → (⟨b, i, none⟩ : Addr) ≠ ⟨b, j, none⟩ := fun i j hj e => hj (by injection e)
  unfold putRow
  rw [World.cell?_setCell_other _ _ _ _ (ne _ _ (by omega)), World.cell?_setCell_other _ _ _ _ (ne _ _ (by omega)), World.cell?_setCell_other _ _ _ _ (ne _ _ (by omega)), World.cell?_setCell_other _ _ _ _ (ne _ _ (by omega)), World.cell?_setCell_other _ _ _ _ (ne _ _ (by omega)), World.cell?_setCell_other _ _ _ _ (ne _ _ (by omega))]
  exact World.cell?_setCell_same _ _ _ h
theorem putRow_1 {w : World} {b o : Nat} {x0 x1 x2 x3 x4 x5 x6 y : Value} (h : w.cell? ⟨b, o + 1, none⟩ = some y) : (putRow w b o x0 x1 x2 x3 x4 x5 x6).cell? ⟨b, o + 1, none⟩ = some x1 := by
  have ne : ∀ i j : Nat, i ≠ j → (⟨b, i, none⟩ : Addr) ≠ ⟨b, j, none⟩ := fun i j hj e => hj (by injection e)
  unfold putRow
  rw [World.cell?_setCell_other _ _ _ _ (ne _ _ (by omega)), World.cell?_setCell_other _ _ _ _ (ne _ _ (by omega)), World.cell?_setCell_other _ _ _ _ (ne _ _ (by omega)), World.cell?_setCell_other _ _ _ _ (ne _ _ (by omega)), World.cell?_setCell_other _ _ _ _ (ne _ _ (by omega))]
  exact World.cell?_setCell_same _ _ _ ((World.cell?_setCell_other _ _ _ _ (ne _ _ (by omega))).trans h)
theorem putRow_2 {w : World} {b o : Nat} {x0 x1 x2 x3 x4 x5 x6 y : Value} (h : w.cell? ⟨b, o + 2, none⟩ = some y) : (putRow w b o x0 x1 x2 x3 x4 x5 x6).cell? ⟨b, o + 2, none⟩ = some x2 := by
  have ne : ∀ i j : Nat, i ≠ j → (⟨b, i, none⟩ : Addr) ≠ ⟨b, j, none⟩ := fun i j hj e => hj (by injection e)
  unfold putRow
  rw [World.cell?_setCell_other _ _ _ _ (ne _ _ (by omega)), World.cell?_setCell_other _ _ _ _ (ne _ _ (by omega)), World.cell?_setCell_other _ _ _ _ (ne _ _ (by omega)), World.cell?_setCell_other _ _ _ _ (ne _ _ (by omega))]
  exact World.cell?_setCell_same _ _ _ ((World.cell?_setCell_other _ _ _ _ (ne _ _ (by omega))).trans ((World.cell?_setCell_other _ _ _ _ (ne _ _ (by omega))).trans h))
theorem putRow_3 {w : World} {b o : Nat} {x0 x1 x2 x3 x4 x5 x6 y : Value} (h : w.cell? ⟨b, o + 3, none⟩ = some y) : (putRow w b o x0 x1 x2 x3 x4 x5 x6).cell? ⟨b, o + 3, none⟩ = some x3 := by
  have ne : ∀ i j : Nat, i ≠ j → (⟨b, i, none⟩ : Addr) ≠ ⟨b, j, none⟩ := fun i j hj e => hj (by injection e)
  unfold putRow
  rw [World.cell?_setCell_other _ _ _ _ (ne _ _ (by omega)), World.cell?_setCell_other _ _ _ _ (ne _ _ (by omega)), World.cell?_setCell_other _ _ _ _ (ne _ _ (by omega))]
  exact World.cell?_setCell_same _ _ _ ((World.cell?_setCell_other _ _ _ _ (ne _ _ (by omega))).trans ((World.cell?_setCell_other _ _ _ _ (ne _ _ (by omega))).trans ((World.cell?_setCell_other _ _ _ _ (ne _ _ (by omega))).trans h)))
theorem putRow_4 {w : World} {b o : Nat} {x0 x1 x2 x3 x4 x5 x6 y : Value} (h : w.cell? ⟨b, o + 4, none⟩ = some y) : (putRow w b o x0 x1 x2 x3 x4 x5 x6).cell? ⟨b, o + 4, none⟩ = some x4 := by
  have ne : ∀ i j : Nat, i ≠ j → (⟨b, i, none⟩ : Addr) ≠ ⟨b, j, none⟩ := fun i j hj e => hj (by injection e)
  unfold putRow
  rw [World.cell?_setCell_other _ _ _ _ (ne _ _ (by omega)), World.cell?_setCell_other _ _ _ _ (ne _ _ (by omega))]
  exact World.cell?_setCell_same _ _ _ ((World.cell?_setCell_other _ _ _ _ (ne _ _ (by omega))).trans ((World.cell?_setCell_other _ _ _ _ (ne _ _ (by omega))).trans ((World.cell?_setCell_other _ _ _ _ (ne _ _ (by omega))).trans ((World.cell?_setCell_other _ _ _ _ (ne _ _ (by omega))).trans h))))
theorem putRow_5 {w : World} {b o : Nat} {x0 x1 x2 x3 x4 x5 x6 y : Value} (h : w.cell? ⟨b, o + 5, none⟩ = some y) : (putRow w b o x0 x1 x2 x3 x4 x5 x6).cell? ⟨b, o + 5, none⟩ = some x5 := by
  have ne : ∀ i j : Nat, i ≠ j → (⟨b, i, none⟩ : Addr) ≠ ⟨b, j, none⟩ := fun i j hj e => hj (by injection e)
  unfold putRow
  rw [World.cell?_setCell_other _ _ _ _ (ne _ _ (by omega))]
  exact World.cell?_setCell_same _ _ _ ((World.cell?_setCell_other _ _ _ _ (ne _ _ (by omega))).trans ((World.cell?_setCell_other _ _ _ _ (ne _ _ (by omega))).trans ((World.cell?_setCell_other _ _ _ _ (ne _ _ (by omega))).trans ((World.cell?_setCell_other _ _ _ _ (ne _ _ (by omega))).trans ((World.cell?_setCell_other _ _ _ _ (ne _ _ (by omega))).trans h)))))
theorem putRow_6 {w : World} {b o : Nat} {x0 x1 x2 x3 x4 x5 x6 y : Value} (h : w.cell? ⟨b, o + 6, none⟩ = some y) : (putRow w b o x0 x1 x2 x3 x4 x5 x6).cell? ⟨b, o + 6, none⟩ = some x6 := by
  have ne : ∀ i j : Nat, i ≠ j → (⟨b, i, none⟩ : Addr) ≠ ⟨b, j, none⟩ := fun i j hj e => hj (by injection e)
  unfold putRow
  exact World.cell?_setCell_same _ _ _ ((World.cell?_setCell_other _ _ _ _ (ne _ _ (by omega))).trans ((World.cell?_setCell_other _ _ _ _ (ne _ _ (by omega))).trans ((World.cell?_setCell_other _ _ _ _ (ne _ _ (by omega))).trans ((World.cell?_setCell_other _ _ _ _ (ne _ _ (by omega))).trans ((World.cell?_setCell_other _ _ _ _ (ne _ _ (by omega))).trans ((World.cell?_setCell_other _ _ _ _ (ne _ _ (by omega))).trans h))))))
theorem putRow_far (w : World) (b o : Nat) (x0 x1 x2 x3 x4 x5 x6 : Value) : Far (fun k => k = b) w (putRow w b o x0 x1 x2 x3 x4 x5 x6) := by
  unfold putRow
  exact Far.setCell (Far.setCell (Far.setCell (Far.setCell (Far.setCell (Far.setCell (Far.one w ⟨b, o, none⟩ x0) (p := ⟨b, o + 1, none⟩) rfl x1) (p := ⟨b, o + 2, none⟩) rfl x2) (p := ⟨b, o + 3, none⟩) rfl x3) (p := ⟨b, o + 4, none⟩) rfl x4) (p := ⟨b, o + 5, none⟩) rfl x5) (p := ⟨b, o + 6, none⟩) rfl x6
theorem putRow_other {w : World} {b o k : Nat} {x0 x1 x2 x3 x4 x5 x6 : Value} (h : k < o ∨ o + 7 ≤ k) : (putRow w b o x0 x1 x2 x3 x4 x5 x6).cell? ⟨b, k, none⟩ = w.cell? ⟨b, k, none⟩ := by
  have ne : ∀ i j : Nat, i ≠ j → (⟨b, i, none⟩ : Addr) ≠ ⟨b, j, none⟩ := fun i j hj e => hj (by injection e)
  unfold putRow
  rw [World.cell?_setCell_other _ _ _ _ (ne _ _ (by omega)), World.cell?_setCell_other _ _ _ _ (ne _ _ (by omega)), World.cell?_setCell_other _ _ _ _ (ne _ _ (by omega)), World.cell?_setCell_other _ _ _ _ (ne _ _ (by omega)), World.cell?_setCell_other _ _ _ _ (ne _ _ (by omega)), World.cell?_setCell_other _ _ _ _ (ne _ _ (by omega)), World.cell?_setCell_other _ _ _ _ (ne _ _ (by omega))]
theorem putRow_size (w : World) (b o : Nat) (x0 x1 x2 x3 x4 x5 x6 : Value) : (putRow w b o x0 x1 x2 x3 x4 x5 x6).heap.size = w.heap.size := by simp [putRow, World.setCell]
/-- One command of a slice is written over. -/
theorem cells_put {w : World} {b c i : Nat} {rs : List DRow} {vs : List Value} {r : DRow} {fv : Value} (h : CellsAt w 7 (.slice (some ⟨b, 0, none⟩) rs.length c) rs.length (flatC rs vs)) (hl : vs.length = rs.length) (hi : i < rs.length) (hv : vs[i]? = some fv) :
    CellsAt (putRow w b (i * 7) fv (.int .u8 (r.c.wait : Nat)) (.int .u8 (r.c.cls : Nat)) (.int .u8 (r.c.id : Nat)) (.int .i64 (r.st : Nat)) (.int .i64 r.sent) (.int .i64 (r.many : Nat))) 7 (.slice (some ⟨b, 0, none⟩) rs.length c) (rs.set i r).length (flatC (rs.set i r) vs) := by
  obtain ⟨_, A, c', e, hc, hr⟩ := h
  cases e
  have hl2 : vs.length = (rs.set i r).length := by rw [List.length_set]; exact hl
  refine ⟨flatC_length _ _ hl2, _, c, by rw [List.length_set], by rw [List.length_set]; exact hc, fun _ => ?_⟩
  obtain ⟨b', o', e, hb, hcell⟩ := hr (by omega)
  cases e
  refine ⟨b, 0, rfl, by rw [putRow_size]; exact hb, fun k x hk => ?_⟩
  rw [flatC_set rs vs i r fv hl hi hv] at hk
  rw [Nat.zero_add]
  by_cases hh : i * 7 ≤ k ∧ k < i * 7 + 7
  · rw [if_pos hh] at hk
    have old : ∀ t, t < 7 → ∃ y, w.cell? ⟨b, i * 7 + t, none⟩ = some y := fun t ht => by
      have hlen := flatC_length rs vs hl
      have h2 := hcell (i * 7 + t) _ (List.getElem?_eq_getElem (show i * 7 + t < (flatC rs vs).length by rw [hlen]; omega))
      rw [Nat.zero_add] at h2
      exact ⟨_, h2⟩
    obtain ⟨t, rfl⟩ : ∃ t, k = i * 7 + t := ⟨k - i * 7, by omega⟩
    rw [show i * 7 + t - i * 7 = t by omega] at hk
    have ht : t < 7 := by omega
    obtain ⟨y, hy⟩ := old t ht
    match t, ht with
    | 0, _ => cases hk; exact putRow_0 hy
    | 1, _ => cases hk; exact putRow_1 hy
    | 2, _ => cases hk; exact putRow_2 hy
    | 3, _ => cases hk; exact putRow_3 hy
    | 4, _ => cases hk; exact putRow_4 hy
    | 5, _ => cases hk; exact putRow_5 hy
    | 6, _ => cases hk; exact putRow_6 hy
  · rw [if_neg hh] at hk
    rw [putRow_other (by omega)]
    have h2 := hcell k x hk
    rwa [Nat.zero_add] at h2

/-- The dialogue behind a list of its own that was laid into it, one command of it written over. -/
theorem dlg_set {X : Nat → Prop} {w w2 w5 : World} {g g2 cap i : Nat} {L : Value} {d : Dlg} {vs : List Value} {r : DRow} (h : DlgAt X w g L d)
    (hX : ∀ b, X b → b < w.heap.size) (hvl : vs.length = d.rows.length) (hok : ∀ (i : Nat) (r : DRow) (fv : Value), d.rows[i]? = some r → vs[i]? = some fv → RowOk X w r fv)
    (hrok : ∀ fv, vs[i]? = some fv → RowOk X w r fv) (D : Grew w w2) (hg2 : w.heap.size ≤ g2) (hlt2 : g2 < w2.heap.size)
    (F5 : Far (fun k => k = g2) (w2.setCell ⟨g, 0, none⟩ (.slice (some ⟨g2, 0, none⟩) d.rows.length cap)) w5)
    (hc : CellsAt w5 7 (.slice (some ⟨g2, 0, none⟩) d.rows.length cap) (d.rows.set i r).length (flatC (d.rows.set i r) vs)) :
    DlgAt X w5 g (.slice (some ⟨g2, 0, none⟩) d.rows.length cap) ⟨d.rows.set i r, d.tmo, d.tries, d.now, d.came⟩ ∧ Far (fun k => k = g) w w5 := by
  have lt := h.lt
  have hgg : g ≠ g2 := by omega
  have ltg2 := Nat.lt_of_lt_of_le lt D.size
  have n0 : ∀ j, j ≠ 0 → (⟨g, 0, none⟩ : Addr) ≠ ⟨g, j, none⟩ := fun j hj e => hj (by injection e with _ e; exact e.symm)
  have Fw : Far (fun k => k = g) w (w2.setCell ⟨g, 0, none⟩ (.slice (some ⟨g2, 0, none⟩) d.rows.length cap)) := Far.setCell (F := fun k => k = g) (Far.of_grew D) (p := ⟨g, 0, none⟩) rfl _
  have FF : Far (fun k => k = g) w w5 := Fw.beyond F5 (fun x hx => .inr (by omega))
  have sz3 : (w2.setCell ⟨g, 0, none⟩ (.slice (some ⟨g2, 0, none⟩) d.rows.length cap)).heap.size = w2.heap.size := by simp [World.setCell]
  have lt3 : g < (w2.setCell ⟨g, 0, none⟩ (.slice (some ⟨g2, 0, none⟩) d.rows.length cap)).heap.size := by rw [sz3]; exact ltg2
  have hc5 : ∀ j x, j ≠ 0 → w.cell? ⟨g, j, none⟩ = some x → w5.cell? ⟨g, j, none⟩ = some x := fun j x hj hx =>
    ((F5.cell (p := ⟨g, j, none⟩) lt3 hgg).trans (World.cell?_setCell_other _ _ _ _ (n0 j hj))).trans ((D.cell (p := ⟨g, j, none⟩) lt).trans hx)
  have hf5 : ∀ j, w.frozen? ⟨g, j, none⟩ = false → w5.frozen? ⟨g, j, none⟩ = false := fun j hx =>
    (F5.frozen (p := ⟨g, j, none⟩) lt3 hgg).trans (by simpa [go_sem] using (D.frozen (p := ⟨g, j, none⟩) lt).trans hx)
  have hxg : ∀ b, X b → ¬ b = g := fun b hb e => h.out (e ▸ hb)
  refine ⟨⟨Nat.lt_of_lt_of_le lt3 F5.size, ?_, hc5 1 _ (by omega) h.c1, hc5 2 _ (by omega) h.c2, hc5 3 _ (by omega) h.c3, hc5 4 _ (by omega) h.c4, hf5 0 h.f0, hf5 3 h.f3, hf5 4 h.f4, ?_, ?_, h.out, ?_, h.kn, h.kt, h.kr⟩, FF⟩
  · exact (F5.cell (p := ⟨g, 0, none⟩) lt3 hgg).trans (World.cell?_setCell_same _ _ _ ((D.cell (p := ⟨g, 0, none⟩) lt).trans h.c0))
  · have hls : (d.rows.set i r).length = d.rows.length := List.length_set
    refine DRowsAt.of_flat (by rw [hls]; exact hvl) hc ?_
    intro k q fv hk hv
    by_cases e : k = i
    · subst e
      have hk2 := (List.getElem?_eq_some_iff.1 hk).1
      rw [List.getElem?_set_self (by rw [hls] at hk2; exact hk2)] at hk
      cases hk
      exact (hrok fv hv).far FF hxg
    · rw [List.getElem?_set_ne (fun h => e h.symm)] at hk
      exact (hok k q fv hk hv).far FF hxg
  · intro b hb
    have e : b = g2 := by simpa [Value.ownBlock] using hb.symm
    subst e
    have hs5 := F5.size
    rw [sz3] at hs5
    refine ⟨by omega, fun e => hgg e.symm, fun hx => ?_⟩
    have := hX _ hx
    omega
  · show (d.rows.set i r).length ≤ 20
    rw [List.length_set]; exact h.kl
theorem RowOk.sent {X : Nat → Prop} {w : World} {r : DRow} {v : Value} (h : RowOk X w r v) {now : Int} (hn : -9223372036854775808 ≤ now ∧ now ≤ 9223372036854775807) (hm : r.many < 100) : RowOk X w (sentOf now r) v :=
  ⟨h.row, h.out, h.kw, h.kc, h.ki, by show (if r.c.wait = 0 then 2 else 1) < 4; split <;> omega, hn, by show r.many + 1 ≤ 100; omega⟩
theorem RowOk.turned {X : Nat → Prop} {w : World} {r : DRow} {v : Value} (h : RowOk X w r v) {s : Nat} (hs : s < 4) : RowOk X w (turnedOf s r) v :=
  ⟨h.row, h.out, h.kw, h.kc, h.ki, hs, h.kt, h.km⟩
theorem vs_one {X : Nat → Prop} {w : World} {rs : List DRow} {vs : List Value} (hl : vs.length = rs.length) (hok : ∀ (i : Nat) (r : DRow) (fv : Value), rs[i]? = some r → vs[i]? = some fv → RowOk X w r fv) : ∀ v ∈ vs, v.oneCell' = true := by
  intro v hv
  obtain ⟨i, hi⟩ := List.mem_iff_getElem?.1 hv
  have h1 := (List.getElem?_eq_some_iff.1 hi).1
  obtain ⟨A, c, e, _⟩ := (hok i _ v (List.getElem?_eq_getElem (show i < rs.length by omega)) hi).row
  subst e
  rfl
/-- The value behind which a command's bytes lie. -/
theorem flat_val {w : World} {b o n c i : Nat} {rs : List DRow} {vs : List Value} {fv : Value} (h : CellsAt w 7 (.slice (some ⟨b, o, none⟩) n c) n (flatC rs vs)) (hl : vs.length = rs.length) (hn : n = rs.length) (hi : i < rs.length) (q : w.cell? ⟨b, o + i * 7, none⟩ = some fv) : vs[i]? = some fv := by
  obtain ⟨_, A, c', e, _, hr⟩ := h
  cases e
  obtain ⟨b', o', e, _, hcell⟩ := hr (by omega)
  cases e
  have hv := List.getElem?_eq_getElem (show i < vs.length by omega)
  have h2 := hcell (i * 7 + 0) _ (flatC_get rs vs i 0 _ _ (List.getElem?_eq_getElem hi) hv (by omega))
  rw [Nat.add_zero, q] at h2
  rw [hv, h2]
end Go.Proofs.Ytcdmbnbanopioaa
