/-
  The program's frames: a ring that is looked at byte by byte.
-/
import Derived.Test.YtkoklmecijejkaaFrmL
import Derived.Test.YtkoklmecijejkaaFrmS
import Derived.Test.YtkoklmecijejkaaRngN
import Derived.LoopTactic
import Derived.Deep.RegionHeld3
namespace Go.Proofs.Ytkoklmecijejkaa
open Go.RowKit
set_option linter.unusedVariables false

/-- A ring that is looked at from its oldest byte on: what its calls tell. -/
structure Looked (R0 : World → Prop) (v : Value) (F : Nat → Prop) (size : Nat) (L : List Nat) : Prop where
  far : ∀ w w' G, R0 w → Far G w w' → (∀ b, F b → ¬ G b) → R0 w'
  lt : ∀ w b, R0 w → F b → b < w.heap.size
  at_ : ∀ w (k : Nat), R0 w → k ≤ 100000 → Calls Try.prog 38 #[v, .int .i64 (k : Nat)] w fun e w' => e = .returned (.tuple #[.int .u8 (wd L k : Nat), .bool (decide (k < L.length))]) ∧ Grew w w'
  ln : ∀ w, R0 w → Calls Try.prog 17 #[v] w fun e w' => e = .returned (.int .i64 (L.length : Nat)) ∧ Grew w w'
  sz : ∀ w, R0 w → Calls Try.prog 39 #[v] w fun e w' => e = .returned (.int .i64 (size : Nat)) ∧ Grew w w'
  bytes : Bytes L
  ll : L.length ≤ size
  ls : size ≤ 4096
  p : (∃ g, v = .pointer (some ⟨g, 0, none⟩)) ∨ v = .pointer none

/-- The two variables of a look: the ring's, and how many bytes were told. -/
structure AtK (R0 : World → Prop) (v : Value) (F : Nat → Prop) (w : World) (a b k : Nat) : Prop where
  r : R0 w
  la : a < w.heap.size
  lb : b < w.heap.size
  ne : a ≠ b
  fa : ¬ F a
  fb : ¬ F b
  ca : w.cell? ⟨a, 0, none⟩ = some v
  cb : w.cell? ⟨b, 0, none⟩ = some (.int .i64 (k : Nat))
  zb : w.frozen? ⟨b, 0, none⟩ = false

section
variable {R0 : World → Prop} {v : Value} {F : Nat → Prop} {size : Nat} {L : List Nat} {w w' : World} {a b k : Nat}
theorem AtK.far (P : Looked R0 v F size L) {G : Nat → Prop} (h : AtK R0 v F w a b k) (g : Far G w w') (hG : ∀ x, G x → x ≠ a ∧ x ≠ b ∧ ¬ F x) : AtK R0 v F w' a b k :=
  ⟨P.far _ _ _ h.r g (fun x hx hg => (hG x hg).2.2 hx), Nat.lt_of_lt_of_le h.la g.size, Nat.lt_of_lt_of_le h.lb g.size, h.ne, h.fa, h.fb,
   (g.cell (p := ⟨a, 0, none⟩) h.la (fun e => (hG _ e).1 rfl)).trans h.ca, (g.cell (p := ⟨b, 0, none⟩) h.lb (fun e => (hG _ e).2.1 rfl)).trans h.cb, (g.frozen (p := ⟨b, 0, none⟩) h.lb (fun e => (hG _ e).2.1 rfl)).trans h.zb⟩
theorem AtK.grew (P : Looked R0 v F size L) (h : AtK R0 v F w a b k) (g : Grew w w') : AtK R0 v F w' a b k :=
  h.far P (G := fun _ => False) (Far.of_grew g) (fun _ h => h.elim)
theorem AtK.next (P : Looked R0 v F size L) (h : AtK R0 v F w a b k) (x : Int) (hx : x = ((k + 1 : Nat) : Int)) : AtK R0 v F (w.setCell ⟨b, 0, none⟩ (.int .i64 x)) a b (k + 1) := by
  subst hx
  have ne : (⟨b, 0, none⟩ : Addr) ≠ ⟨a, 0, none⟩ := fun e => h.ne (by injection e with e; exact e.symm)
  exact ⟨P.far _ _ (fun y => y = b) h.r (Far.one w ⟨b, 0, none⟩ _) (fun y hy e => h.fb (e ▸ hy)), by simpa [World.setCell] using h.la, by simpa [World.setCell] using h.lb, h.ne, h.fa, h.fb,
    (World.cell?_setCell_other _ _ _ _ ne).trans h.ca, World.cell?_setCell_same _ _ _ h.cb, by simpa using h.zb⟩

/-- What the next byte is. -/
def NextT (R0 : World → Prop) (v : Value) (F : Nat → Prop) (L : List Nat) (a b k : Nat) (w : World) (e : Ending) (w' : World) : Prop :=
  e = .returned (.tuple #[.int .u8 (wd L k : Nat), .bool (decide (k < L.length))]) ∧ AtK R0 v F w' a b (k + 1) ∧ Far (fun x => x = b) w w'
theorem look_next (P : Looked R0 v F size L) (w : World) (a b k : Nat) (h : AtK R0 v F w a b k) (hk : k ≤ 50000) :
    Calls Try.prog 37 #[.pointer (some ⟨a, 0, none⟩), .pointer (some ⟨b, 0, none⟩)] w (NextT R0 v F L a b k w) := by
  have H := Lib.hid (P.at_ w k h.r (by omega))
  have HP : ∀ w', Grew w w' → Hid (NextT R0 v F L a b k w (.returned (.tuple #[.int .u8 (wd L k : Nat), .bool (decide (k < L.length))])) (w'.setCell ⟨b, 0, none⟩ (.int .i64 ((k : Int) + 1)))) := fun w' g =>
    ⟨rfl, (h.grew P g).next P _ (by omega), Far.setCell (F := fun x => x = b) (Far.of_grew g) (p := ⟨b, 0, none⟩) rfl _⟩
  have HB := fun w' (g : Grew w w') => Lib.hid (h.grew P g).cb
  have HZ := fun w' (g : Grew w w') => Lib.hid (h.grew P g).zb
  have c1 := h.ca
  have c2 := h.cb
  have e1 : IntKind.i64.wrap ((k : Int) + 1) = (k : Int) + 1 := IntWalk.i64_in _ (by omega)
  clear h
  generalize wd L k = x at *
  generalize decide (k < L.length) = y at *
  rcases P.p with ⟨g, rfl⟩ | rfl
  all_goals
    go_enter Try.func37, Try.ntmps37
    go_wp2_with fail
    refine H.out.mono ?_
    rintro e w1 ⟨rfl, g1⟩
    have d1 := (HB _ g1).out
    have d2 := (HZ _ g1).out
    have hp := HP _ g1
    clear HB HZ HP H c1 c2
    go_wp2_with fail
    go_ret2
    exact hp.out

/-- A new block of two cells. -/
theorem newB (w : World) (x y : Value) (E : TypeId) : ∃ W, w.alloc (.cells #[x, y] E) = W ∧ Grew w W ∧ W.cell? ⟨w.heap.size, 0, none⟩ = some x ∧ w.heap.size < W.heap.size ∧ W.cell? ⟨w.heap.size, 1, none⟩ = some y ∧ W.heap.size = w.heap.size + 1 :=
  ⟨_, rfl, (Grew.refl w).alloc _, by simp [go_sem], by simp, by simp [go_sem], by simp⟩
/-- The begin of a ring, as its methods take it. -/
def bv (a b size : Nat) : Value := .agg #[.func (.func 37) #[] #[.pointer (some ⟨a, 0, none⟩), .pointer (some ⟨b, 0, none⟩)], .int .i64 (size : Nat)]

/-- What the next bytes are, held against others: 2 if they are those, 1 at the first that is another one, 0 if there are no more. -/
def expS (ns L : List Nat) (k : Nat) : Nat := if common ns (L.drop k) = ns.length then 2 else if k + common ns (L.drop k) < L.length then 1 else 0
theorem wd_cut (L : List Nat) (k i : Nat) : wd (L.drop k) i = wd L (k + i) := by simp [wd]
theorem common_at (ns L : List Nat) (k j : Nat) (h : ∀ s, s < j → wd ns s = wd L (k + s)) (hj : j ≤ ns.length) (hk : k + j ≤ L.length) (he : j = ns.length ∨ k + j = L.length ∨ wd ns j ≠ wd L (k + j)) : common ns (L.drop k) = j :=
  common_eq ns (L.drop k) j (fun i hi => by rw [wd_cut]; exact h i hi) hj (by rw [List.length_drop]; omega) (by
    rcases he with he | he | he
    · exact .inl he
    · exact .inr (.inl (by rw [List.length_drop]; omega))
    · exact .inr (.inr (by rw [wd_cut]; exact he)))
def ExpT (R0 : World → Prop) (v : Value) (F : Nat → Prop) (L : List Nat) (a b k : Nat) (ns : List Nat) (w : World) (e : Ending) (w' : World) : Prop :=
  ∃ j, e = .returned (.int .i64 (expS ns L k : Nat)) ∧ j ≤ ns.length ∧ (expS ns L k = 2 → j = ns.length) ∧ AtK R0 v F w' a b (k + j) ∧ Far (fun x => x = b) w w'

set_option maxRecDepth 100000 in
set_option maxHeartbeats 2000000 in
theorem look_expect (P : Looked R0 v F size L) (w : World) (a b k : Nat) (rv : Value) (ns : List Nat) (h : AtK R0 v F w a b k) (hk : k ≤ L.length) (hR : Row .u8 w rv ns) (hB : Bytes ns) (hl : ns.length ≤ 5000) (hne : 0 < ns.length → ∀ x, rv.ownBlock = some x → x ≠ b) :
    Calls Try.prog 41 #[bv a b size, rv] w (ExpT R0 v F L a b k ns w) := by
  have hL : L.length ≤ 4096 := Nat.le_trans P.ll P.ls
  have HN := fun w' j (q : AtK R0 v F w' a b j) (hj : j ≤ 50000) => Lib.hid (look_next P w' a b j q hj)
  have HL := Lib.hid P.bytes
  have HB := Lib.hid hB
  obtain ⟨A, c, rfl, hc⟩ := hR.form
  have HR := Lib.hid hR
  have HNE := Lib.hid hne
  have HP := Lib.hid P
  have HA := Lib.hid h
  have hlb := h.lb
  unfold bv
  clear hR hne h hB P
  go_enter Try.func41, Try.ntmps41
  go_wp2_with fail
  obtain ⟨W, hW, gW, c0, hWl⟩ := newB w (.func (.func 37) #[] #[.pointer (some ⟨a, 0, none⟩), .pointer (some ⟨b, 0, none⟩)]) (.int .i64 (size : Nat)) 74
  rw [hW]
  have HA0 := Lib.hid (HA.out.grew HP.out gW)
  clear hW
  go_loopw [11] (fun i wr => ∃ j : Nat, j ≤ ns.length ∧ i = .int .i64 (j : Nat) ∧ k + j ≤ L.length ∧ Hid (∀ s, s < j → wd ns s = wd L (k + s)) ∧ Hid (AtK R0 v F wr a b (k + j)) ∧ Hid (Far (fun x => x = b) W wr)) (fun i _ => ns.length - (intOf i).toNat)
  case atStart => exact ⟨0, by omega, rfl, by omega, fun s hs => by omega, HA0.out, Far.refl _ _⟩
  case round =>
    obtain ⟨j, hj, rfl, hkj, hM, hA, hF⟩ := hrel
    have d0 := (hF.out.cell (p := ⟨w.heap.size, 0, none⟩) hWl.1 (by simp only; omega)).trans c0
    by_cases hlt : j < ns.length
    · have hr := (HR.out.grew gW).farE hF.out (fun h x hx e => HNE.out h x hx e)
      obtain ⟨Ax, cx, e0, hcx, hr⟩ := hr
      simp only [Value.slice.injEq] at e0
      obtain ⟨rfl, -, rfl⟩ := e0
      obtain ⟨rb, ro, rfl, hrb, hcell⟩ := hr (by omega)
      have y0 := hcell j (by omega)
      have j0 : (0 : Int) ≤ j := by omega
      have j1 : (j : Int) < ns.length := by omega
      have H1 := HN wr (k + j) hA.out (by omega)
      have x1 := HB.out j
      have x2 := HL.out (k + j)
      clear hcell hrb hcx hr
      by_cases hll : k + j < L.length
      · have hd : decide (k + j < L.length) = true := decide_eq_true hll
        unfold NextT at H1
        rw [hd] at H1
        clear hd
        by_cases he : wd ns j = wd L (k + j)
        · have HS : Hid (∀ s, s < j + 1 → wd ns s = wd L (k + s)) := fun s hs => by
            rcases Nat.lt_or_ge s j with h | h
            · exact hM.out s h
            · obtain rfl : s = j := by omega
              exact he
          rw [he] at y0
          clear hM he
          generalize wd L (k + j) = x at *
          go_wp2_with fail
          refine H1.out.mono ?_
          rintro e w1 ⟨rfl, hA1, hF1⟩
          replace hA1 := Lib.hid hA1
          replace hF1 := Lib.hid hF1
          go_wp2_with fail
          go_roundw
          case rel => exact ⟨j + 1, by omega, by simp, by omega, HS, hA1, hF.out.trans hF1.out⟩
          case measure => simp [intOf]; omega
        · have hE : Hid (expS ns L k = 1) := by
            show _ = _
            have := common_at ns L k j hM.out hj hkj (.inr (.inr he))
            unfold expS
            rw [this, if_neg (by omega), if_pos hll]
          have e1 : ¬ ((wd L (k + j) : Nat) : Int) = (wd ns j : Nat) := by omega
          have e2 : (((wd L (k + j) : Nat) : Int) == (wd ns j : Nat)) = false := by simpa using e1
          clear hM he
          generalize wd L (k + j) = x at *
          generalize wd ns j = y at *
          go_wp2_with fail
          refine H1.out.mono ?_
          rintro e w1 ⟨rfl, hA1, hF1⟩
          replace hA1 := Lib.hid hA1
          replace hF1 := Lib.hid hF1
          go_wp2_with fail
          go_ret
          exact ⟨j + 1, by rw [hE.out]; rfl, by omega, fun h => by have := hE.out; omega, hA1.out, ((Far.of_grew gW).trans hF.out).trans hF1.out⟩
      · have hd : decide (k + j < L.length) = false := decide_eq_false hll
        unfold NextT at H1
        rw [hd] at H1
        have hE : Hid (expS ns L k = 0) := by
          show _ = _
          have := common_at ns L k j hM.out hj hkj (.inr (.inl (by omega)))
          unfold expS
          rw [this, if_neg (by omega), if_neg hll]
        clear hd hM
        generalize wd L (k + j) = x at *
        generalize wd ns j = y at *
        go_wp2_with fail
        refine H1.out.mono ?_
        rintro e w1 ⟨rfl, hA1, hF1⟩
        replace hA1 := Lib.hid hA1
        replace hF1 := Lib.hid hF1
        go_wp2_with fail
        go_ret
        exact ⟨j + 1, by rw [hE.out]; rfl, by omega, fun h => by have := hE.out; omega, hA1.out, ((Far.of_grew gW).trans hF.out).trans hF1.out⟩
    · obtain rfl : j = ns.length := by omega
      have hE : Hid (expS ns L k = 2) := by
        show _ = _
        have := common_at ns L k _ hM.out hj hkj (.inl rfl)
        unfold expS
        rw [this, if_pos rfl]
      go_wp2_with fail
      go_ret
      exact ⟨ns.length, by rw [hE.out]; rfl, Nat.le_refl _, fun _ => rfl, hA.out, (Far.of_grew gW).trans hF.out⟩
end
end Go.Proofs.Ytkoklmecijejkaa
