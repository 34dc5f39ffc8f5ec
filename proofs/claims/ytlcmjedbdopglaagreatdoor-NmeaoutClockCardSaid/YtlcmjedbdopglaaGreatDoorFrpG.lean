/-
  The program's frames: a ring that is looked at byte by byte.
  The program's frames: so many bytes of a ring, whatever they are; as many as a length says.
  The program's frames: a frame's bytes, of a sentence.
  The program's frames: the body of a sentence.
  The program's frames: the bodies of the two kinds that count their bytes.
  The program's frames: the body of a UBX frame.
-/
import Derived.Test.YtlcmjedbdopglaaGreatDoorFrmO
import Derived.Test.YtlcmjedbdopglaaGreatDoorFrmS
import Derived.Test.YtlcmjedbdopglaaGreatDoorRngJ
import Derived.Test.YtlcmjedbdopglaaGreatDoorSumQ
import Derived.Test.YtlcmjedbdopglaaGreatDoorFrmF
import Derived.LoopTactic
import Derived.Deep.RegionHeld3
import Derived.Laws.Bits64b
import Derived.Deep.RegionLaw
namespace Go.Proofs.YtlcmjedbdopglaaGreatDoor
open Go.RowKit
set_option linter.unusedVariables false

/- The program's frames: a ring that is looked at byte by byte. -/
/-- A ring that is looked at from its oldest byte on: what its calls tell. -/
structure Looked (R0 : World → Prop) (v : Value) (F : Nat → Prop) (size : Nat) (L : List Nat) : Prop where
  far : ∀ w w' G, R0 w → Far G w w' → (∀ b, F b → ¬ G b) → R0 w'
  lt : ∀ w b, R0 w → F b → b < w.heap.size
  at_ : ∀ w (k : Nat), R0 w → k ≤ 100000 → Calls Tryz.prog 52 #[v, .int .i64 (k : Nat)] w fun e w' => e = .returned (.tuple #[.int .u8 (wd L k : Nat), .bool (decide (k < L.length))]) ∧ Grew w w'
  ln : ∀ w, R0 w → Calls Tryz.prog 18 #[v] w fun e w' => e = .returned (.int .i64 (L.length : Nat)) ∧ Grew w w'
  sz : ∀ w, R0 w → Calls Tryz.prog 53 #[v] w fun e w' => e = .returned (.int .i64 (size : Nat)) ∧ Grew w w'
  bytes : Bytes L
  ll : L.length ≤ size
  ls : size ≤ 4096
  p : (∃ g, v = .pointer (some ⟨g, 0, none⟩)) ∨ v = .pointer none

/-- The two variables of a look: the ring's, and how many bytes were told. -/
structure AtK (R0 : World → Prop) (v : Value) (F : Nat → Prop) (w : World) (a b k : Nat) : Prop where
  r : R0 w
  la : a < w.heap.size
  lb : b < w.heap.size
  ne : a ≠ b
  fa : ¬ F a
  fb : ¬ F b
  ca : w.cell? ⟨a, 0, none⟩ = some v
  cb : w.cell? ⟨b, 0, none⟩ = some (.int .i64 (k : Nat))
  zb : w.frozen? ⟨b, 0, none⟩ = false

section
variable {R0 : World → Prop} {v : Value} {F : Nat → Prop} {size : Nat} {L : List Nat} {w w' : World} {a b k : Nat}
theorem AtK.far (P : Looked R0 v F size L) {G : Nat → Prop} (h : AtK R0 v F w a b k) (g : Far G w w') (hG : ∀ x, G x → x ≠ a ∧ x ≠ b ∧ ¬ F x) : AtK R0 v F w' a b k :=
  ⟨P.far _ _ _ h.r g (fun x hx hg => (hG x hg).2.2 hx), Nat.lt_of_lt_of_le h.la g.size, Nat.lt_of_lt_of_le h.lb g.size, h.ne, h.fa, h.fb,
   (g.cell (p := ⟨a, 0, none⟩) h.la (fun e => (hG _ e).1 rfl)).trans h.ca, (g.cell (p := ⟨b, 0, none⟩) h.lb (fun e => (hG _ e).2.1 rfl)).trans h.cb, (g.frozen (p := ⟨b, 0, none⟩) h.lb (fun e => (hG _ e).2.1 rfl)).trans h.zb⟩
theorem AtK.grew (P : Looked R0 v F size L) (h : AtK R0 v F w a b k) (g : Grew w w') : AtK R0 v F w' a b k :=
  h.far P (G := fun _ => False) (Far.of_grew g) (fun _ h => h.elim)
theorem AtK.next (P : Looked R0 v F size L) (h : AtK R0 v F w a b k) (x : Int) (hx : x = ((k + 1 : Nat) : Int)) : AtK R0 v F (w.setCell ⟨b, 0, none⟩ (.int .i64 x)) a b (k + 1) := by
  subst hx
  have ne : (⟨b, 0, none⟩ : Addr) ≠ ⟨a, 0, none⟩ := fun e => h.ne (by injection e with e; exact e.symm)
  exact ⟨P.far _ _ (fun y => y = b) h.r (Far.one w ⟨b, 0, none⟩ _) (fun y hy e => h.fb (e ▸ hy)), by simpa [World.setCell] using h.la, by simpa [World.setCell] using h.lb, h.ne, h.fa, h.fb,
    (World.cell?_setCell_other _ _ _ _ ne).trans h.ca, World.cell?_setCell_same _ _ _ h.cb, by simpa using h.zb⟩

/-- What the next byte is. -/
def NextT (R0 : World → Prop) (v : Value) (F : Nat → Prop) (L : List Nat) (a b k : Nat) (w : World) (e : Ending) (w' : World) : Prop :=
  e = .returned (.tuple #[.int .u8 (wd L k : Nat), .bool (decide (k < L.length))]) ∧ AtK R0 v F w' a b (k + 1) ∧ Far (fun x => x = b) w w'
theorem look_next (P : Looked R0 v F size L) (w : World) (a b k : Nat) (h : AtK R0 v F w a b k) (hk : k ≤ 50000) :
    Calls Tryz.prog 51 #[.pointer (some ⟨a, 0, none⟩), .pointer (some ⟨b, 0, none⟩)] w (NextT R0 v F L a b k w) := by
  have H := Lib.hid (P.at_ w k h.r (by omega))
  have HP : ∀ w', Grew w w' → Hid (NextT R0 v F L a b k w (.returned (.tuple #[.int .u8 (wd L k : Nat), .bool (decide (k < L.length))])) (w'.setCell ⟨b, 0, none⟩ (.int .i64 ((k : Int) + 1)))) := fun w' g =>
    ⟨rfl, (h.grew P g).next P _ (by omega), Far.setCell (F := fun x => x = b) (Far.of_grew g) (p := ⟨b, 0, none⟩) rfl _⟩
  have HB := fun w' (g : Grew w w') => Lib.hid (h.grew P g).cb
  have HZ := fun w' (g : Grew w w') => Lib.hid (h.grew P g).zb
  have c1 := h.ca
  have c2 := h.cb
  have e1 : IntKind.i64.wrap ((k : Int) + 1) = (k : Int) + 1 := IntWalk.i64_in _ (by omega)
  clear h
  generalize wd L k = x at *
  generalize decide (k < L.length) = y at *
  rcases P.p with ⟨g, rfl⟩ | rfl
  all_goals
    go_enter Tryz.func51, Tryz.ntmps51
    go_wp2_with fail
    refine H.out.mono ?_
    rintro e w1 ⟨rfl, g1⟩
    have d1 := (HB _ g1).out
    have d2 := (HZ _ g1).out
    have hp := HP _ g1
    clear HB HZ HP H c1 c2
    go_wp2_with fail
    go_ret2
    exact hp.out

/-- A new block of two cells. -/
theorem newB (w : World) (x y : Value) (E : TypeId) : ∃ W, w.alloc (.cells #[x, y] E) = W ∧ Grew w W ∧ W.cell? ⟨w.heap.size, 0, none⟩ = some x ∧ w.heap.size < W.heap.size ∧ W.cell? ⟨w.heap.size, 1, none⟩ = some y ∧ W.heap.size = w.heap.size + 1 :=
  ⟨_, rfl, (Grew.refl w).alloc _, by simp [go_sem], by simp, by simp [go_sem], by simp⟩
/-- The begin of a ring, as its methods take it. -/
def bv (a b size : Nat) : Value := .agg #[.func (.func 51) #[] #[.pointer (some ⟨a, 0, none⟩), .pointer (some ⟨b, 0, none⟩)], .int .i64 (size : Nat)]

/-- What the next bytes are, held against others: 2 if they are those, 1 at the first that is another one, 0 if there are no more. -/
def expS (ns L : List Nat) (k : Nat) : Nat := if common ns (L.drop k) = ns.length then 2 else if k + common ns (L.drop k) < L.length then 1 else 0
theorem wd_cut (L : List Nat) (k i : Nat) : wd (L.drop k) i = wd L (k + i) := by simp [wd]
theorem common_at (ns L : List Nat) (k j : Nat) (h : ∀ s, s < j → wd ns s = wd L (k + s)) (hj : j ≤ ns.length) (hk : k + j ≤ L.length) (he : j = ns.length ∨ k + j = L.length ∨ wd ns j ≠ wd L (k + j)) : common ns (L.drop k) = j :=
  common_eq ns (L.drop k) j (fun i hi => by rw [wd_cut]; exact h i hi) hj (by rw [List.length_drop]; omega) (by
    rcases he with he | he | he
    · exact .inl he
    · exact .inr (.inl (by rw [List.length_drop]; omega))
    · exact .inr (.inr (by rw [wd_cut]; exact he)))
def ExpT (R0 : World → Prop) (v : Value) (F : Nat → Prop) (L : List Nat) (a b k : Nat) (ns : List Nat) (w : World) (e : Ending) (w' : World) : Prop :=
  ∃ j, e = .returned (.int .i64 (expS ns L k : Nat)) ∧ j ≤ ns.length ∧ (expS ns L k = 2 → j = ns.length) ∧ AtK R0 v F w' a b (k + j) ∧ Far (fun x => x = b) w w'

set_option maxRecDepth 100000 in
set_option maxHeartbeats 2000000 in
theorem look_expect (P : Looked R0 v F size L) (w : World) (a b k : Nat) (rv : Value) (ns : List Nat) (h : AtK R0 v F w a b k) (hk : k ≤ L.length) (hR : Row .u8 w rv ns) (hB : Bytes ns) (hl : ns.length ≤ 5000) (hne : 0 < ns.length → ∀ x, rv.ownBlock = some x → x ≠ b) :
    Calls Tryz.prog 55 #[bv a b size, rv] w (ExpT R0 v F L a b k ns w) := by
  have hL : L.length ≤ 4096 := Nat.le_trans P.ll P.ls
  have HN := fun w' j (q : AtK R0 v F w' a b j) (hj : j ≤ 50000) => Lib.hid (look_next P w' a b j q hj)
  have HL := Lib.hid P.bytes
  have HB := Lib.hid hB
  obtain ⟨A, c, rfl, hc⟩ := hR.form
  have HR := Lib.hid hR
  have HNE := Lib.hid hne
  have HP := Lib.hid P
  have HA := Lib.hid h
  have hlb := h.lb
  unfold bv
  clear hR hne h hB P
  go_enter Tryz.func55, Tryz.ntmps55
  go_wp2_with fail
  obtain ⟨W, hW, gW, c0, hWl⟩ := newB w (.func (.func 51) #[] #[.pointer (some ⟨a, 0, none⟩), .pointer (some ⟨b, 0, none⟩)]) (.int .i64 (size : Nat)) 109
  rw [hW]
  have HA0 := Lib.hid (HA.out.grew HP.out gW)
  clear hW
  go_loopw [11] (fun i wr => ∃ j : Nat, j ≤ ns.length ∧ i = .int .i64 (j : Nat) ∧ k + j ≤ L.length ∧ Hid (∀ s, s < j → wd ns s = wd L (k + s)) ∧ Hid (AtK R0 v F wr a b (k + j)) ∧ Hid (Far (fun x => x = b) W wr)) (fun i _ => ns.length - (intOf i).toNat)
  case atStart => exact ⟨0, by omega, rfl, by omega, fun s hs => by omega, HA0.out, Far.refl _ _⟩
  case round =>
    obtain ⟨j, hj, rfl, hkj, hM, hA, hF⟩ := hrel
    have d0 := (hF.out.cell (p := ⟨w.heap.size, 0, none⟩) hWl.1 (by simp only; omega)).trans c0
    by_cases hlt : j < ns.length
    · have hr := (HR.out.grew gW).farE hF.out (fun h x hx e => HNE.out h x hx e)
      obtain ⟨Ax, cx, e0, hcx, hr⟩ := hr
      simp only [Value.slice.injEq] at e0
      obtain ⟨rfl, -, rfl⟩ := e0
      obtain ⟨rb, ro, rfl, hrb, hcell⟩ := hr (by omega)
      have y0 := hcell j (by omega)
      have j0 : (0 : Int) ≤ j := by omega
      have j1 : (j : Int) < ns.length := by omega
      have H1 := HN wr (k + j) hA.out (by omega)
      have x1 := HB.out j
      have x2 := HL.out (k + j)
      clear hcell hrb hcx hr
      by_cases hll : k + j < L.length
      · have hd : decide (k + j < L.length) = true := decide_eq_true hll
        unfold NextT at H1
        rw [hd] at H1
        clear hd
        by_cases he : wd ns j = wd L (k + j)
        · have HS : Hid (∀ s, s < j + 1 → wd ns s = wd L (k + s)) := fun s hs => by
            rcases Nat.lt_or_ge s j with h | h
            · exact hM.out s h
            · obtain rfl : s = j := by omega
              exact he
          rw [he] at y0
          clear hM he
          generalize wd L (k + j) = x at *
          go_wp2_with fail
          refine H1.out.mono ?_
          rintro e w1 ⟨rfl, hA1, hF1⟩
          replace hA1 := Lib.hid hA1
          replace hF1 := Lib.hid hF1
          go_wp2_with fail
          go_roundw
          case rel => exact ⟨j + 1, by omega, by simp, by omega, HS, hA1, hF.out.trans hF1.out⟩
          case measure => simp [intOf]; omega
        · have hE : Hid (expS ns L k = 1) := by
            show _ = _
            have := common_at ns L k j hM.out hj hkj (.inr (.inr he))
            unfold expS
            rw [this, if_neg (by omega), if_pos hll]
          have e1 : ¬ ((wd L (k + j) : Nat) : Int) = (wd ns j : Nat) := by omega
          have e2 : (((wd L (k + j) : Nat) : Int) == (wd ns j : Nat)) = false := by simpa using e1
          clear hM he
          generalize wd L (k + j) = x at *
          generalize wd ns j = y at *
          go_wp2_with fail
          refine H1.out.mono ?_
          rintro e w1 ⟨rfl, hA1, hF1⟩
          replace hA1 := Lib.hid hA1
          replace hF1 := Lib.hid hF1
          go_wp2_with fail
          go_ret
          exact ⟨j + 1, by rw [hE.out]; rfl, by omega, fun h => by have := hE.out; omega, hA1.out, ((Far.of_grew gW).trans hF.out).trans hF1.out⟩
      · have hd : decide (k + j < L.length) = false := decide_eq_false hll
        unfold NextT at H1
        rw [hd] at H1
        have hE : Hid (expS ns L k = 0) := by
          show _ = _
          have := common_at ns L k j hM.out hj hkj (.inr (.inl (by omega)))
          unfold expS
          rw [this, if_neg (by omega), if_neg hll]
        clear hd hM
        generalize wd L (k + j) = x at *
        generalize wd ns j = y at *
        go_wp2_with fail
        refine H1.out.mono ?_
        rintro e w1 ⟨rfl, hA1, hF1⟩
        replace hA1 := Lib.hid hA1
        replace hF1 := Lib.hid hF1
        go_wp2_with fail
        go_ret
        exact ⟨j + 1, by rw [hE.out]; rfl, by omega, fun h => by have := hE.out; omega, hA1.out, ((Far.of_grew gW).trans hF.out).trans hF1.out⟩
    · obtain rfl : j = ns.length := by omega
      have hE : Hid (expS ns L k = 2) := by
        show _ = _
        have := common_at ns L k _ hM.out hj hkj (.inl rfl)
        unfold expS
        rw [this, if_pos rfl]
      go_wp2_with fail
      go_ret
      exact ⟨ns.length, by rw [hE.out]; rfl, Nat.le_refl _, fun _ => rfl, hA.out, (Far.of_grew gW).trans hF.out⟩
end
/- The program's frames: so many bytes of a ring, whatever they are; as many as a length says. -/
section
variable {R0 : World → Prop} {v : Value} {F : Nat → Prop} {size : Nat} {L : List Nat} {w w' : World} {a b k : Nat}
/-- So many bytes, if there are so many. -/
def TakeT (R0 : World → Prop) (v : Value) (F : Nat → Prop) (L : List Nat) (a b k n : Nat) (w : World) (e : Ending) (w' : World) : Prop :=
  ∃ j A m c st, e = .returned (.tuple #[.slice A m c, .int .i64 (st : Nat)]) ∧ j ≤ n ∧ (k + n ≤ L.length → st = 2 ∧ j = n ∧ Own w.heap.size 5 .u8 w' (.slice A m c) ((L.drop k).take n)) ∧ (L.length < k + n → st = 0 ∧ m = 0) ∧ AtK R0 v F w' a b (k + j) ∧ Far (fun x => x = b) w w'
theorem Far.over {F : Nat → Prop} {w0 w1 : World} (h : Far F w0 w1) {p : Addr} (hp : F p.block ∨ w0.heap.size ≤ p.block) (u : Value) : Far F w0 (w1.setCell p u) :=
  ⟨h.os, h.tape, h.output, by simpa [World.setCell] using h.size, fun x hx hF => by
    rw [Below.heap_setCell _ _ _ _ (fun e => by rcases hp with hp | hp; · exact hF (e ▸ hp)
                                                · omega)]
    exact h.block x hx hF⟩
/-- The bytes behind, and zeros. -/
def pad (L : List Nat) (k n : Nat) : List Nat := L.drop k ++ List.replicate n 0
theorem pad_length (L : List Nat) (k n : Nat) : n ≤ (pad L k n).length := by unfold pad; rw [List.length_append, List.length_replicate]; omega
theorem pad_wd (L : List Nat) (k n i : Nat) (h : k + i < L.length) : wd (pad L k n) i = wd L (k + i) := by
  unfold pad
  rw [wd_append_left (by rw [List.length_drop]; omega), wd_cut]
theorem pad_take (L : List Nat) (k n : Nat) (h : k + n ≤ L.length) : (pad L k n).take n = (L.drop k).take n := by
  unfold pad
  rw [List.take_append_of_le_length (by rw [List.length_drop]; omega)]

set_option maxRecDepth 100000 in
set_option maxHeartbeats 2000000 in
theorem look_take (P : Looked R0 v F size L) (w : World) (a b k n : Nat) (h : AtK R0 v F w a b k) (hk : k ≤ L.length) (hn : n ≤ 2000) :
    Calls Tryz.prog 123 #[bv a b size, .int .i64 (n : Nat)] w (TakeT R0 v F L a b k n w) := by
  have hL : L.length ≤ 4096 := Nat.le_trans P.ll P.ls
  have HN := fun w' j (q : AtK R0 v F w' a b j) (hj : j ≤ 50000) => Lib.hid (look_next P w' a b j q hj)
  have HL := Lib.hid P.bytes
  have HP := Lib.hid P
  have HA := Lib.hid h
  have hlb := h.lb
  obtain ⟨ei, hei, hz0, hz1, hz2⟩ := info_parts infoU8
  unfold bv
  clear h P
  go_enter Tryz.func123, Tryz.ntmps123
  go_upto_region 1 with fail
  obtain ⟨W, hW, gW, c0, hWlt, -, -⟩ := newB w (.func (.func 51) #[] #[.pointer (some ⟨a, 0, none⟩), .pointer (some ⟨b, 0, none⟩)]) (.int .i64 (size : Nat)) 109
  rw [hW]
  have HA0 := Lib.hid (HA.out.grew HP.out gW)
  clear hW
  go_wp2_with (refine wpList_make_full _ rfl _ _ 22 rfl w.heap.size 5 ei (.int .u8 0) 1 Tryz.underlying22 hei hz0 hz1 .i64 .i64 n n n rfl rfl rfl rfl (by rw [hz2]; omega) (by unfold maxLen; omega) gW.size ?_; intro w3 hown hgrow)
  have G3 := gW.trans (grew_made hgrow)
  have HA3 := Lib.hid (HA0.out.grew HP.out (grew_made hgrow))
  have d0 := ((grew_made hgrow).cell (p := ⟨w.heap.size, 0, none⟩) hWlt).trans c0
  have hO := Lib.hid (own_zeros hown)
  rw [← toldOf_zero (pad L k n) n] at hO
  have hwl : w.heap.size < w3.heap.size := Nat.lt_of_lt_of_le hWlt (grew_made hgrow).size
  have hX : w.heap.size < W.heap.size := hWlt
  generalize W.heap.size = X at *
  clear hown hgrow HA0 c0 hWlt
  go_wp2_with fail
  go_loopw [14] (fun i wr => ∃ j : Nat, j ≤ n ∧ i = .int .i64 (j : Nat) ∧ k + j ≤ L.length ∧ Hid (Own w.heap.size 5 .u8 wr (.slice (some ⟨X, 0, none⟩) n n) (toldOf (pad L k n) n j)) ∧ Hid (AtK R0 v F wr a b (k + j)) ∧ Hid (Far (fun x => x = b) w wr) ∧ Hid (wr.cell? ⟨w.heap.size, 0, none⟩ = some (.func (.func 51) #[] #[.pointer (some ⟨a, 0, none⟩), .pointer (some ⟨b, 0, none⟩)]))) (fun i _ => n - (intOf i).toNat)
  case atStart => exact ⟨0, by omega, rfl, by omega, hO, HA3.out, Far.of_grew G3, d0⟩
  case round =>
    clear HA3 hO G3 d0
    obtain ⟨j, hj, rfl, hkj, hO, hA, hF, hD⟩ := hrel
    have d0 := hD.out
    by_cases hlt : j < n
    · have H1 := HN wr (k + j) hA.out (by omega)
      have j0 : (0 : Int) ≤ j := by omega
      have j1 : (j : Int) < n := by omega
      have x2 := HL.out (k + j)
      have hlen := toldOf_length (pad L k n) n j hj (pad_length L k n)
      by_cases hll : k + j < L.length
      · have hd : decide (k + j < L.length) = true := decide_eq_true hll
        have hst := Lib.hid (toldOf_set (pad L k n) n j hlt (pad_length L k n))
        rw [pad_wd L k n j hll] at hst
        unfold NextT at H1
        rw [hd] at H1
        clear hd
        generalize wd L (k + j) = x at *
        go_wp2_with fail
        refine H1.out.mono ?_
        rintro e w1 ⟨rfl, hA1, hF1⟩
        have hO1 := Lib.hid (hO.out.far hF1 (fun y hy e => by simp only [Value.ownBlock, Option.some.injEq] at hy; omega))
        have hlw : w.heap.size < wr.heap.size := World.block_lt_of_cell? wr ⟨w.heap.size, 0, none⟩ d0
        have d1 := (hF1.cell (p := ⟨w.heap.size, 0, none⟩) hlw (by simp only; omega)).trans d0
        obtain ⟨⟨x0, t0⟩, f0⟩ := own_cellP hO1.out (i := j) (by rw [hlen]; exact hlt)
        have hA2 := Lib.hid (hA1.far HP.out (Far.one w1 ⟨X, j, none⟩ (.int .u8 (x : Nat))) (fun y hy => ⟨fun e => by have := HA.out.la; simp only at hy; omega, fun e => by simp only at hy; omega, fun e => by have := HP.out.lt w y HA.out.r e; simp only at hy; omega⟩))
        have hO2 := hO1.out.set j x (by rw [hlen]; exact hlt)
        rw [hst.out] at hO2
        have hO2 := Lib.hid hO2
        have d2 : Hid ((w1.setCell ⟨X, j, none⟩ (.int .u8 (x : Nat))).cell? ⟨w.heap.size, 0, none⟩ = some (.func (.func 51) #[] #[.pointer (some ⟨a, 0, none⟩), .pointer (some ⟨b, 0, none⟩)])) := by
          show _ = _
          rw [World.cell?_setCell_other _ _ _ _ (fun e => by injection e with e1; omega)]
          exact d1
        have hF2 : Hid (Far (fun y => y = b) w (w1.setCell ⟨X, j, none⟩ (.int .u8 (x : Nat)))) := by
          exact (hF.out.trans hF1).over (.inr (by simp only; omega)) _
        clear hst hO hA hF hD hA1 hO1 HA H1
        go_wp2_with fail
        go_roundw
        case rel => exact ⟨j + 1, by omega, by simp, by omega, hO2, hA2, hF2, d2⟩
        case measure => simp [intOf]; omega
      · have hd : decide (k + j < L.length) = false := decide_eq_false hll
        unfold NextT at H1
        rw [hd] at H1
        clear hd
        generalize wd L (k + j) = x at *
        go_wp2_with fail
        refine H1.out.mono ?_
        rintro e w1 ⟨rfl, hA1, hF1⟩
        replace hA1 := Lib.hid hA1
        replace hF1 := Lib.hid hF1
        go_wp2_with fail
        go_ret2
        exact ⟨j + 1, none, 0, 0, 0, rfl, by omega, fun h => by omega, fun _ => ⟨rfl, rfl⟩, hA1.out, hF.out.trans hF1.out⟩
    · obtain rfl : j = n := by omega
      go_wp2_with fail
      go_ret2
      exact ⟨j, _, j, j, 2, rfl, Nat.le_refl _, fun h => ⟨rfl, rfl, by rw [← pad_take L k j hkj, ← toldOf_full (pad L k j) j]; exact hO.out⟩, fun h => by omega, hA.out, hF.out⟩

theorem bits_or_i64_n (x y : Nat) (hx : x < 4294967296) (hy : y < 4294967296) : bits .or .i64 (x : Int) (y : Int) = ((x ||| y : Nat) : Int) := by
  have hx' : x < 2 ^ 32 := hx
  have hy' : y < 2 ^ 32 := hy
  have hz : x ||| y < 2 ^ 32 := Nat.or_lt_two_pow hx' hy'
  have h1 : (BitVec.ofInt 64 (x : Int)).toNat = x := by rw [BitVec.ofInt_natCast, BitVec.toNat_ofNat]; exact Nat.mod_eq_of_lt (by omega)
  have h2 : (BitVec.ofInt 64 (y : Int)).toNat = y := by rw [BitVec.ofInt_natCast, BitVec.toNat_ofNat]; exact Nat.mod_eq_of_lt (by omega)
  show IntKind.i64.wrap ((BitVec.ofInt 64 (x : Int) ||| BitVec.ofInt 64 (y : Int)).toNat : Int) = _
  rw [BitVec.toNat_or, h1, h2, IntWalk.i64_in _ (by omega)]
theorem or_word (x y : Nat) (hx : x < 256) (hy : y < 256) : bits .or .i64 ((x : Int) * 256) (y : Int) = ((256 * x + y : Nat) : Int) := by
  have := bits_or_i64_n (x * 256) y (by omega) (by omega)
  rw [show ((x * 256 : Nat) : Int) = (x : Int) * 256 by omega] at this
  rw [this, show x * 256 = x <<< 8 from (Nat.shiftLeft_eq x 8).symm, ← Nat.shiftLeft_add_eq_or_of_lt (show y < 2 ^ 8 from hy), Nat.shiftLeft_eq]
  omega

/-- As many bytes as a length says, or 1 if it says too many. -/
def PayT (R0 : World → Prop) (v : Value) (F : Nat → Prop) (L : List Nat) (size a b k n most : Nat) (w : World) (e : Ending) (w' : World) : Prop :=
  if most < n ∨ size < n + 8 then e = .returned (.tuple #[.slice none 0 0, .int .i64 1]) ∧ Grew w w' else TakeT R0 v F L a b k n w e w'
theorem TakeT.up {n : Nat} {w0 : World} {e : Ending} (g : Grew w0 w) (h : TakeT R0 v F L a b k n w e w') : TakeT R0 v F L a b k n w0 e w' := by
  obtain ⟨j, A, m, c, st, rfl, hj, h1, h2, hA, hF⟩ := h
  exact ⟨j, A, m, c, st, rfl, hj, fun hk => ⟨(h1 hk).1, (h1 hk).2.1, own_base (h1 hk).2.2 g.size⟩, h2, hA, (Far.of_grew g).trans hF⟩
set_option maxRecDepth 100000 in
set_option maxHeartbeats 2000000 in
theorem look_payload (P : Looked R0 v F size L) (w : World) (a b k x y most : Nat) (h : AtK R0 v F w a b k) (hk : k ≤ L.length) (hx : x < 256) (hy : y < 256) (hm : most ≤ 1023) :
    Calls Tryz.prog 124 #[bv a b size, .int .u8 (x : Nat), .int .u8 (y : Nat), .int .i64 (most : Nat)] w (PayT R0 v F L size a b k (256 * x + y) most w) := by
  have hsz := P.ls
  have HT := fun w' n (g : Grew w w') (hn : n ≤ 2000) => Lib.hid (look_take P w' a b k n (h.grew P g) hk hn)
  have ho := or_word x y hx hy
  have hs : IntKind.i64.wrap ((x : Int) * 256) = (x : Int) * 256 := IntWalk.i64_in _ (by omega)
  obtain ⟨n, hn⟩ : ∃ n, 256 * x + y = n := ⟨_, rfl⟩
  have hnl : n < 65536 := by omega
  rw [hn] at ho ⊢
  clear hn
  unfold PayT
  unfold bv at HT ⊢
  have e8 : IntKind.i64.wrap ((n : Int) + 8) = (n : Int) + 8 := IntWalk.i64_in _ (by omega)
  by_cases h1 : most < n
  · simp only [show (most < n ∨ size < n + 8) from .inl h1, if_true]
    have c1 : (most : Int) < n := by omega
    clear HT h1
    go_enter Tryz.func124, Tryz.ntmps124
    go_wp2_with fail
    go_ret2
    exact ⟨rfl, (Grew.refl w).alloc _⟩
  · have c1 : ¬ (most : Int) < n := by omega
    by_cases h2 : size < n + 8
    · simp only [show (most < n ∨ size < n + 8) from .inr h2, if_true]
      have c2 : (size : Int) < (n : Int) + 8 := by omega
      clear HT h1
      go_enter Tryz.func124, Tryz.ntmps124
      go_wp2_with fail
      go_ret2
      exact ⟨rfl, (Grew.refl w).alloc _⟩
    · simp only [show ¬ (most < n ∨ size < n + 8) by omega, if_false]
      have c2 : ¬ (size : Int) < (n : Int) + 8 := by omega
      have hT := HT _ n ((Grew.refl w).alloc (.cells #[.func (.func 51) #[] #[.pointer (some ⟨a, 0, none⟩), .pointer (some ⟨b, 0, none⟩)], .int .i64 (size : Nat)] 109)) (by omega)
      clear HT h1 h2
      go_enter Tryz.func124, Tryz.ntmps124
      go_wp2_with fail
      refine hT.out.mono ?_
      rintro e w1 hh
      replace hh := hh.up ((Grew.refl w).alloc _)
      obtain ⟨j, A, m, c, st, rfl, hj, hh1, hh2, hA, hF⟩ := hh
      go_wp2_with fail
      go_ret2
      exact ⟨j, A, m, c, st, rfl, hj, hh1, hh2, hA, hF⟩
end
/- The program's frames: a frame's bytes, of a sentence. -/
theorem prog_inNMEA (x : Nat) (w : World) (hx : x < 256) : Calls Tryz.prog 68 #[.int .u8 x] w fun e w' => e = .returned (.bool (may x)) ∧ w = w' := by
  have hm : may x = (decide ((32 : Int) ≤ x) && decide ((x : Int) ≤ 126) && decide ((x : Int) ≠ 36) && decide ((x : Int) ≠ 42)) := by
    unfold may
    rw [Bool.eq_iff_iff]
    simp
    omega
  rw [hm]
  clear hm
  go_enter Tryz.func68, Tryz.ntmps68
  go_wp2
  all_goals go_ret
  all_goals (refine ⟨frm_ret_bool ?_, rfl⟩; rw [Bool.eq_iff_iff]; simp)
  all_goals omega
theorem prog_nmea1 (x : Nat) (w : World) (hx : x < 256) : Calls Tryz.prog 67 #[.int .u8 x] w fun e w' => e = .returned (.bool (!may x)) ∧ w = w' := by
  have H := Lib.hid (prog_inNMEA x w hx)
  go_enter Tryz.func67, Tryz.ntmps67
  go_wp2_with fail
  refine H.out.mono ?_
  rintro e w1 ⟨rfl, rfl⟩
  go_wp2_with fail
  go_ret
  exact ⟨rfl, rfl⟩

/-- Is there a byte that may not stand in a sentence? -/
theorem prog_indexFunc (v : Value) (ns : List Nat) (w : World) (h : Row .u8 w v ns) (hB : Bytes ns) (hl : ns.length ≤ 5000) :
    Calls Tryz.prog 90 #[v, .func (.func 67) #[] #[]] w fun e w' => (∃ i : Int, e = .returned (.int .i64 i) ∧ decide (0 ≤ i) = !ns.all may ∧ -1 ≤ i ∧ i ≤ 5000) ∧ Grew w w' := by
  have HM := fun x w hx => Lib.hid (prog_nmea1 x w hx)
  obtain ⟨A, c', rfl, hc, hr⟩ := h
  have HR := Lib.hid hr
  clear hr
  go_enter Tryz.func90, Tryz.ntmps90
  go_wp2_with fail
  go_loopw [8] (fun i wr => ∃ j : Nat, j ≤ ns.length ∧ i = .int .i64 (j : Nat) ∧ Hid (∀ i, i < j → may (wd ns i) = true) ∧ Grew w wr) (fun i _ => ns.length - (intOf i).toNat)
  case atStart => exact ⟨0, by omega, rfl, fun i hi => by omega, Grew.refl _⟩
  case round =>
    obtain ⟨j, hj, rfl, hM, hg⟩ := hrel
    by_cases hlt : j < ns.length
    · obtain ⟨rb, ro, rfl, hrb, hcell⟩ := HR.out (by omega)
      have y0 := (hg.cell (p := ⟨rb, ro + j, none⟩) hrb).trans (hcell j (by omega))
      have hx256 := hB j
      clear hcell hrb
      have j0 : (0 : Int) ≤ j := by omega
      have j1 : (j : Int) < ns.length := by omega
      by_cases hmay : may (wd ns j) = true
      · have H1 := fun w => (HM (wd ns j) w hx256).out
        rw [hmay] at H1
        have HS : Hid (∀ i, i < j + 1 → may (wd ns i) = true) := fun i hi => by
          rcases Nat.lt_or_ge i j with h | h
          · exact hM.out i h
          · obtain rfl : i = j := by omega
            exact hmay
        have H1' := fun w => Lib.hid (H1 w)
        clear H1 hM hmay
        generalize wd ns j = x at *
        go_wp2_with fail
        refine (H1' _).out.mono ?_
        rintro e w1 ⟨rfl, rfl⟩
        go_wp2_with fail
        go_roundw
        case rel => exact ⟨j + 1, by omega, by simp, HS, hg⟩
        case measure => simp [intOf]; omega
      · have hmf : may (wd ns j) = false := by simpa using hmay
        have H1 := fun w => (HM (wd ns j) w hx256).out
        rw [hmf] at H1
        have H1' := fun w => Lib.hid (H1 w)
        have HA : Hid (ns.all may = false) := by
          show _ = _
          rw [List.all_eq_false]
          refine ⟨ns[j], List.getElem_mem hlt, ?_⟩
          rw [← wd_lt hlt, hmf]; simp
        clear H1 hM hmay hmf
        generalize wd ns j = x at *
        go_wp2_with fail
        refine (H1' _).out.mono ?_
        rintro e w1 ⟨rfl, rfl⟩
        go_wp2_with fail
        go_ret
        exact ⟨⟨j, rfl, by rw [HA.out]; simp, by omega, by omega⟩, hg⟩
    · obtain rfl : j = ns.length := by omega
      have HA : Hid (ns.all may = true) := by
        show _ = _
        rw [List.all_eq_true]
        intro x hx
        obtain ⟨i, hi, rfl⟩ := List.getElem_of_mem hx
        rw [← wd_lt hi]; exact hM.out i hi
      go_wp2_with fail
      go_ret
      exact ⟨⟨-1, rfl, by rw [HA.out]; simp, by omega, by omega⟩, hg⟩
theorem prog_containsFunc (v : Value) (ns : List Nat) (w : World) (h : Row .u8 w v ns) (hB : Bytes ns) (hl : ns.length ≤ 5000) :
    Calls Tryz.prog 66 #[v, .func (.func 67) #[] #[]] w fun e w' => e = .returned (.bool (!ns.all may)) ∧ Grew w w' := by
  have H := Lib.hid (prog_indexFunc v ns w h hB hl)
  clear h
  generalize ns.all may = b at *
  go_enter Tryz.func66, Tryz.ntmps66
  go_wp2_with fail
  refine H.out.mono ?_
  rintro e w1 ⟨⟨i, rfl, hi, hi1, hi2⟩, g1⟩
  go_wp2_with fail
  go_ret
  exact ⟨by rw [← hi]; rfl, g1⟩

theorem and15 (x : Nat) (h : x < 256) : bits BinOp.and IntKind.u8 (x : Int) 15 = (x : Int) % 16 := by
  have := bits_and_u8_n x 15 h (by decide)
  rw [show ((15 : Nat) : Int) = 15 from rfl] at this
  rw [this, show (15 : Nat) = 2 ^ 4 - 1 from rfl, Nat.and_two_pow_sub_one_eq_mod]
  omega
def hexText : ByteArray := { data := #[48, 49, 50, 51, 52, 53, 54, 55, 56, 57, 65, 66, 67, 68, 69, 70] }
set_option maxRecDepth 100000 in
theorem hex_at (n : Nat) (h : n < 16) (w : World) : Sem.run Tryz.prog (Instr.index 9 (.string hexText) (.int .u8 (n : Nat))) w = .ok (.int .u8 (digit n : Nat)) w := by
  have h : n = 0 ∨ n = 1 ∨ n = 2 ∨ n = 3 ∨ n = 4 ∨ n = 5 ∨ n = 6 ∨ n = 7 ∨ n = 8 ∨ n = 9 ∨ n = 10 ∨ n = 11 ∨ n = 12 ∨ n = 13 ∨ n = 14 ∨ n = 15 := by omega
  rcases h with rfl | rfl | rfl | rfl | rfl | rfl | rfl | rfl | rfl | rfl | rfl | rfl | rfl | rfl | rfl | rfl <;> rfl

/-- A frame's bytes, as the program tells them. -/
def BytesRow (k : Nat) (ns : List Nat) (w : World) (e : Ending) (w' : World) : Prop := BytesTells k ns w e w'

set_option maxRecDepth 100000 in
set_option maxHeartbeats 2000000 in
theorem prog_nmeaBytes (v : Value) (ns : List Nat) (w : World) (hR : Row .u8 w v ns) (hB : Bytes ns) (hl : ns.length ≤ 5000) :
    Calls Tryz.prog 39 #[v] w (BytesTells 1 ns w) := by
  obtain ⟨A, c, rfl, hc⟩ := hR.form
  by_cases h76 : 76 < ns.length
  · have H := fun w' (g : Grew w w') => Lib.hid (bytesTells_no (k := 1) (ns := ns) 3 (by unfold frameErr; simp [h76]) (by omega) g)
    go_enter Tryz.func39, Tryz.ntmps39
    go_wp2_with fail
    go_ret2
    exact (H _ (Grew.refl w)).out
  · have HC := Lib.hid (prog_containsFunc _ ns w hR hB hl)
    cases ha : ns.all may
    · rw [ha] at HC
      have H := fun w' (g : Grew w w') => Lib.hid (bytesTells_no (k := 1) (ns := ns) 5 (by unfold frameErr; simp only [if_true, if_neg h76, ha]; simp) (by omega) g)
      clear ha
      go_enter Tryz.func39, Tryz.ntmps39
      go_wp2_with fail
      refine HC.out.mono ?_
      rintro e w1 ⟨rfl, g1⟩
      go_wp2_with fail
      go_ret2
      exact (H _ g1).out
    · rw [ha] at HC
      have hE : frameErr 1 ns = 0 := by unfold frameErr; simp only [if_true, if_neg h76, ha]
      have hx : xorOf ns < 256 := xorTo_lt hB ns.length
      have HF := fun v w' (ho : Own w.heap.size 5 .u8 w' v (frameRow 1 ns)) g => Lib.hid (bytesTells_is hE ho g)
      have e1 : frameRow 1 ns = [36] ++ ns ++ [42, digit (xorOf ns / 16), digit (xorOf ns % 16), 13, 10] := by unfold frameRow; simp
      rw [e1] at HF
      have HX := fun w' (g : Grew w w') => Lib.hid (sums_Xor _ ns w' (hR.grew g) hB hl)
      have HR := fun w' (g : Grew w w') => Lib.hid (hR.grew g)
      have I1 := fun w => Lib.hid (hex_at (xorOf ns / 16) (by omega) w)
      have I2 := fun w => Lib.hid (hex_at (xorOf ns % 16) (by omega) w)
      have l1 := digit_lt (xorOf ns / 16) (by omega)
      have l2 := digit_lt (xorOf ns % 16) (by omega)
      have d1 : ((xorOf ns / 16 : Nat) : Int) = (xorOf ns : Int) / 16 := by omega
      have d2 : ((xorOf ns % 16 : Nat) : Int) = (xorOf ns : Int) % 16 := by omega
      rw [d1] at I1
      rw [d2] at I2
      have ha15 : bits BinOp.and IntKind.u8 (xorOf ns : Int) 15 = (xorOf ns : Int) % 16 := and15 _ hx
      generalize digit (xorOf ns / 16) = y1 at *
      generalize digit (xorOf ns % 16) = y2 at *
      generalize xorOf ns = x at *
      clear hE e1 ha hR d1 d2
      go_enter Tryz.func39, Tryz.ntmps39
      go_wp2_with fail
      refine HC.out.mono ?_
      rintro e w1 ⟨rfl, g1⟩
      go_wp2_with fail
      refine (HX _ g1).out.mono ?_
      rintro e w2 ⟨rfl, g2⟩
      have G2 := g1.trans g2
      have hO0 := own_lit (B := w.heap.size) w2 5 #[.int .u8 36] [36] 1 G2.size rfl rfl (by simp [maxLen])
      have G1 := G2.alloc (.cells #[.int .u8 36] 5)
      have hR1 := (HR _ G1).out
      have HL := fun w' => Lib.hid (own_lit (B := 0) w' 5 #[.int .u8 42, .int .u8 y1, .int .u8 y2, .int .u8 13, .int .u8 10] [42, y1, y2, 13, 10] 5 (Nat.zero_le _) rfl rfl (by simp [maxLen])).row
      clear HX HR HC g1 g2
      go_wp2_with (refine wpList_joinN _ rfl _ _ 22 rfl w.heap.size 5 .u8 1 Tryz.underlying22 infoU8 (.slice (some ⟨w2.heap.size, 0, none⟩) 1 1) _ rfl hO0 _ ns rfl hR1 (by simp; omega) (by decide) (by have := G1.size; omega) ?_; intro v1 w1 hown hgrow hnil; have G3 := Grew.push G1 hO0 hgrow; have hfm := hown.form (by simp); obtain ⟨b1, c1, rfl, hb1, hb2⟩ := hfm; have i1 := fun w => (I1 w).out; have i2 := fun w => (I2 w).out)
      unfold hexText at i1 i2
      have hO1 := (hown.alloc (.cells #[.int .u8 42, .int .u8 y1, .int .u8 y2, .int .u8 13, .int .u8 10] 5)).drew
      have hL1 := Lib.hid ((own_lit (B := 0) w1 5 #[.int .u8 42, .int .u8 y1, .int .u8 y2, .int .u8 13, .int .u8 10] [42, y1, y2, 13, 10] 5 (Nat.zero_le _) rfl rfl (by simp [maxLen])).drew).row
      have G4 := (G3.alloc (.cells #[.int .u8 42, .int .u8 y1, .int .u8 y2, .int .u8 13, .int .u8 10] 5)).drew
      clear I1 I2 HL hown hgrow hnil hR1 hO0 G1 G2 hb1 hb2
      go_region_law (refine step_joinN _ rfl _ _ 22 rfl w.heap.size 5 .u8 1 Tryz.underlying22 infoU8 _ _ rfl hO1 _ [42, y1, y2, 13, 10] rfl hL1.out (by simp; omega) (by decide) G4.size ?_; intro v2 w2 hown2 hgrow2 hnil2)
      all_goals go_wp2_with fail
      all_goals go_ret2
      all_goals exact (HF _ _ hown2 (Grew.push G4 hO1 hgrow2)).out
/- The program's frames: the body of a sentence. -/
theorem far_own {B : Nat} {w w' : World} {E : TypeId} {k : IntKind} {v : Value} {ns : List Nat} (ho : Own B E k w v ns) (hg : w.grownBy w' v.ownBlock) : Far (fun x => B ≤ x) w w' := by
  obtain ⟨h1, h2, h3, h4, h5⟩ := hg
  exact ⟨h1, h2, h3, h4, fun k hk hne => h5 k hk (fun e => hne (World.ownsRow.lt ho k e.symm).1)⟩
section
variable {R0 : World → Prop} {v : Value} {F : Nat → Prop} {size : Nat} {L : List Nat} {w w' : World} {a b k : Nat}
/-- The body of a sentence, behind its first byte. -/
def BodyT (R0 : World → Prop) (v : Value) (F : Nat → Prop) (L : List Nat) (a b : Nat) (st : Nat) (ns : List Nat) (n : Nat) (w : World) (e : Ending) (w' : World) : Prop :=
  ∃ j A m c, e = .returned (.tuple #[.slice A m c, .int .i64 (st : Nat)]) ∧ j ≤ 5000 ∧ (st = 2 → j = n ∧ Own w.heap.size 5 .u8 w' (.slice A m c) ns) ∧ AtK R0 v F w' a b j ∧ Far (fun x => x = b) w w'
/-- What it is: 2 whole, 1 wrong, 0 short. -/
def nmeaS (L : List Nat) : Nat :=
  if 76 < ((L.drop 1).takeWhile may).length then 1
  else if ((L.drop 1).takeWhile may).length + 1 < L.length then (if wd L (((L.drop 1).takeWhile may).length + 1) = 42 then 2 else 1)
  else 0
theorem may42 : may 42 = false := by decide

set_option maxRecDepth 100000 in
set_option maxHeartbeats 4000000 in
theorem look_nmea (P : Looked R0 v F size L) (w : World) (a b : Nat) (h : AtK R0 v F w a b 1) (h1 : 0 < L.length) :
    Calls Tryz.prog 103 #[bv a b size] w (BodyT R0 v F L a b (nmeaS L) ((L.drop 1).takeWhile may) (((L.drop 1).takeWhile may).length + 2) w) := by
  have hL : L.length ≤ 4096 := Nat.le_trans P.ll P.ls
  have HN := fun w' j (q : AtK R0 v F w' a b j) (hj : j ≤ 50000) => Lib.hid (look_next P w' a b j q hj)
  have HL := Lib.hid P.bytes
  have HP := Lib.hid P
  have HA := Lib.hid h
  have HM := fun x w hx => Lib.hid (prog_inNMEA x w hx)
  have hlb := h.lb
  have HLT := Lib.hid (fun x (hx : F x) => P.lt w x h.r hx)
  have HLA := Lib.hid h.la
  unfold bv
  clear h P
  go_enter Tryz.func103, Tryz.ntmps103
  go_upto_region 1 with fail
  obtain ⟨W, hW, gW, c0, hWlt, hW1, hWs⟩ := newB w (.func (.func 51) #[] #[.pointer (some ⟨a, 0, none⟩), .pointer (some ⟨b, 0, none⟩)]) (.int .i64 (size : Nat)) 109
  rw [hW]
  have HA0 := Lib.hid (HA.out.grew HP.out gW)
  have hWs2 : w.heap.size + 1 ≤ W.heap.size := by omega
  clear hW hW1 hWs
  go_wp2_with fail
  go_loopw [4] (fun s wr => ∃ (t : Nat) (u : Value), t + 1 ≤ L.length ∧ t ≤ 76 ∧ s = u ∧ Hid (∀ s, s < t → may (wd L (s + 1)) = true) ∧ Hid (Own (w.heap.size + 1) 5 .u8 wr u ((L.drop 1).take t)) ∧ Hid (AtK R0 v F wr a b (t + 1)) ∧ Hid (Far (fun x => x = b) w wr) ∧ Hid (wr.cell? ⟨w.heap.size, 0, none⟩ = some (.func (.func 51) #[] #[.pointer (some ⟨a, 0, none⟩), .pointer (some ⟨b, 0, none⟩)])) ∧ w.heap.size + 1 ≤ wr.heap.size) (fun s _ => 100 - (match s with | .slice _ n _ => n | _ => 0))
  case atStart => exact ⟨0, _, by omega, by omega, rfl, fun s hs => by omega, Own.nil _ _ _ _, HA0.out, Far.of_grew gW, c0, hWs2⟩
  case round =>
    clear HA0 c0 hWlt hWs2
    obtain ⟨t, u, ht, ht76, rfl, hM, hO, hA, hF, hD, hws⟩ := hrel
    have htl : ((L.drop 1).take t).length = t := by rw [List.length_take, List.length_drop]; omega
    obtain ⟨A1, k1, rfl, hk1⟩ := hO.out.row.form
    rw [htl] at hO hk1 ⊢
    have d0 := hD.out
    have H1 := HN wr (t + 1) hA.out (by omega)
    unfold NextT at H1
    by_cases hlt : t + 1 < L.length
    · have hd : decide (t + 1 < L.length) = true := decide_eq_true hlt
      rw [hd] at H1
      clear hd
      have hx := HL.out (t + 1)
      by_cases h42 : wd L (t + 1) = 42
      · have hT := Lib.hid (run_stop L t hM.out ht (.inr (by rw [h42]; exact may42)))
        have hE : Hid (nmeaS L = 2) := by
          show _ = _
          unfold nmeaS
          rw [hT.out, htl, if_neg (by omega), if_pos hlt, if_pos h42]
        rw [h42] at H1
        have HT1 := Lib.hid htl
        clear hM HM hx h42 htl
        go_wp2_with fail
        refine H1.out.mono ?_
        rintro e w1 ⟨rfl, hA1, hF1⟩
        replace hA1 := Lib.hid hA1
        have hO1 := Lib.hid (hO.out.far hF1 (fun y hy e => by have := (World.ownsRow.lt hO.out y hy).1; omega))
        replace hF1 := Lib.hid hF1
        go_wp2_with fail
        go_ret2
        rw [hE.out, hT.out]
        exact ⟨t + 1 + 1, A1, t, k1, rfl, by omega, fun _ => ⟨by rw [HT1.out], own_base hO1.out (by omega)⟩, hA1.out, hF.out.trans hF1.out⟩
      · have e1 : ¬ ((wd L (t + 1) : Nat) : Int) = 42 := by omega
        have e2 : (((wd L (t + 1) : Nat) : Int) == 42) = false := by simpa using e1
        by_cases hmay : may (wd L (t + 1)) = true
        · have H2 := fun w => (HM (wd L (t + 1)) w hx).out
          rw [hmay] at H2
          have H2' := fun w => Lib.hid (H2 w)
          have HS : Hid (∀ s, s < t + 1 → may (wd L (s + 1)) = true) := fun s hs => by
            rcases Nat.lt_or_ge s t with h | h
            · exact hM.out s h
            · obtain rfl : s = t := by omega
              exact hmay
          have HTK := Lib.hid (drop_take_snoc L t hlt)
          have HT1 := Lib.hid htl
          clear H2 hM hmay HM h42 htl
          by_cases h76 : t = 76
          · obtain ⟨rest, hrest⟩ := run_take L (t + 1) HS.out (by omega)
            have hE : Hid (nmeaS L = 1) := by
              show _ = _
              unfold nmeaS
              rw [if_pos (by rw [hrest, List.length_append, HTK.out, List.length_append, HT1.out]; simp only [List.length_cons, List.length_nil]; omega)]
            subst h76
            clear hrest HTK HS hO
            generalize wd L (76 + 1) = x at *
            go_wp2_with fail
            refine H1.out.mono ?_
            rintro e w1 ⟨rfl, hA1, hF1⟩
            replace hA1 := Lib.hid hA1
            replace hF1 := Lib.hid hF1
            go_wp2_with fail
            refine (H2' _).out.mono ?_
            rintro e w2 ⟨rfl, rfl⟩
            go_wp2_with fail
            go_ret2
            rw [hE.out]
            exact ⟨76 + 1 + 1, none, 0, 0, rfl, by omega, fun h => by omega, hA1.out, hF.out.trans hF1.out⟩
          · have c1 : ¬ (t : Int) = 76 := by omega
            have c2 : ((t : Int) == 76) = false := by simpa using c1
            generalize wd L (t + 1) = x at *
            go_wp2_with fail
            refine H1.out.mono ?_
            rintro e w1 ⟨rfl, hA1, hF1⟩
            have hO1 := (hO.out.far hF1 (fun y hy e => by have := (World.ownsRow.lt hO.out y hy).1; omega))
            have hlw : w.heap.size < wr.heap.size := World.block_lt_of_cell? wr ⟨w.heap.size, 0, none⟩ d0
            have d1 := (hF1.cell (p := ⟨w.heap.size, 0, none⟩) hlw (by simp only; omega)).trans d0
            have hs1 : w.heap.size + 1 ≤ w1.heap.size := Nat.le_trans hws hF1.size
            have hA1 := Lib.hid hA1
            have hF2 := Lib.hid (hF.out.trans hF1)
            go_wp2_with fail
            refine (H2' _).out.mono ?_
            rintro e w2 ⟨rfl, rfl⟩
            have hL1 := Lib.hid (own_lit (B := 0) w1 5 #[.int .u8 x] [x] 1 (Nat.zero_le _) rfl rfl (by simp [maxLen])).row
            have G1 := (Grew.refl w1).alloc (.cells #[.int .u8 x] 5)
            have hO2 := hO1.alloc (.cells #[.int .u8 x] 5)
            have HLN : Hid (((L.drop 1).take t).length = t) := HT1
            clear HT1 hO hO1 d0 hF1 hA hF hD
            go_wp2_with (refine wpList_joinN _ rfl _ _ 22 rfl (w.heap.size + 1) 5 .u8 1 Tryz.underlying22 infoU8 (.slice A1 t k1) _ rfl hO2 _ [x] rfl hL1.out (by have := HLN.out; simp only [List.length_cons, List.length_nil]; omega) (by decide) (by have := G1.size; omega) ?_; intro v3 w3 hown hgrow hnil; have hfm := hown.form (by simp); rw [List.length_append, HLN.out] at hfm; obtain ⟨b2, c2', rfl, hb2, hlt3⟩ := hfm)
            have hFO := far_own hO2 hgrow
            have hA3 := Lib.hid ((hA1.out.grew HP.out G1).far HP.out hFO (fun y hy => ⟨fun e => by have := HLA.out; omega, fun e => by omega, fun e => by have := HLT.out y e; omega⟩))
            have hF3 := Lib.hid ((hF2.out.trans (Far.of_grew G1)).beyond hFO (fun y hy => .inr (by omega)))
            have d3 : Hid (w3.cell? ⟨w.heap.size, 0, none⟩ = some (.func (.func 51) #[] #[.pointer (some ⟨a, 0, none⟩), .pointer (some ⟨b, 0, none⟩)])) :=
              (hFO.cell (p := ⟨w.heap.size, 0, none⟩) (by have := G1.size; simp only; omega) (by simp only; omega)).trans ((G1.cell (p := ⟨w.heap.size, 0, none⟩) (by simp only; omega)).trans d1)
            have hs3 : w.heap.size + 1 ≤ w3.heap.size := Nat.le_trans (Nat.le_trans hs1 G1.size) hFO.size
            rw [← HTK.out] at hown
            clear hFO hA1 hF2 d1 hgrow hnil hO2 hL1 G1 hb2 hlt3
            go_roundw
            case rel => exact ⟨t + 1, _, by omega, by omega, rfl, HS, hown, hA3, hF3, d3, hs3⟩
            case measure => simp; omega
        · have hmf : may (wd L (t + 1)) = false := by simpa using hmay
          have H2 := fun w => (HM (wd L (t + 1)) w hx).out
          rw [hmf] at H2
          have H2' := fun w => Lib.hid (H2 w)
          have hT := Lib.hid (run_stop L t hM.out ht (.inr hmf))
          have hE : Hid (nmeaS L = 1) := by
            show _ = _
            unfold nmeaS
            rw [hT.out, htl, if_neg (by omega), if_pos hlt, if_neg h42]
          clear H2 hM hmay HM h42 htl hT hmf
          generalize wd L (t + 1) = x at *
          go_wp2_with fail
          refine H1.out.mono ?_
          rintro e w1 ⟨rfl, hA1, hF1⟩
          replace hA1 := Lib.hid hA1
          replace hF1 := Lib.hid hF1
          go_wp2_with fail
          refine (H2' _).out.mono ?_
          rintro e w2 ⟨rfl, rfl⟩
          go_wp2_with fail
          go_ret2
          rw [hE.out]
          exact ⟨t + 1 + 1, none, 0, 0, rfl, by omega, fun h => by omega, hA1.out, hF.out.trans hF1.out⟩
    · have hd : decide (t + 1 < L.length) = false := decide_eq_false hlt
      rw [hd] at H1
      have hT := Lib.hid (run_stop L t hM.out ht (.inl (by omega)))
      have hE : Hid (nmeaS L = 0) := by
        show _ = _
        unfold nmeaS
        rw [hT.out, htl, if_neg (by omega), if_neg hlt]
      clear hM HM htl hT hd
      generalize wd L (t + 1) = x at *
      go_wp2_with fail
      refine H1.out.mono ?_
      rintro e w1 ⟨rfl, hA1, hF1⟩
      replace hA1 := Lib.hid hA1
      replace hF1 := Lib.hid hF1
      go_wp2_with fail
      go_ret2
      rw [hE.out]
      exact ⟨t + 1 + 1, none, 0, 0, rfl, by omega, fun h => by omega, hA1.out, hF.out.trans hF1.out⟩
end
/- The program's frames: the bodies of the two kinds that count their bytes. -/
theorem expS_one (c : Nat) (L : List Nat) (k : Nat) (hk : k ≤ L.length) : expS [c] L k = if k < L.length then (if wd L k = c then 2 else 1) else 0 := by
  have w0 : wd [c] 0 = c := rfl
  unfold expS
  by_cases h : k < L.length
  · rw [if_pos h]
    by_cases hc : wd L k = c
    · rw [if_pos hc, common_at [c] L k 1 (fun s hs => by obtain rfl : s = 0 := by omega
                                                         rw [w0, Nat.add_zero, hc]) (by simp) (by omega) (.inl (by simp)), if_pos (by simp)]
    · rw [if_neg hc, common_at [c] L k 0 (fun s hs => by omega) (by simp) (by omega) (.inr (.inr (by rw [w0, Nat.add_zero]; exact fun e => hc e.symm))), if_neg (by simp), if_pos (by omega)]
  · rw [if_neg h, common_at [c] L k 0 (fun s hs => by omega) (by simp) (by omega) (.inr (.inl (by omega))), if_neg (by simp), if_neg (by omega)]
theorem Own.prefix {w : World} {B : Nat} {E : TypeId} {k : IntKind} {g c n : Nat} {ns : List Nat} (h : Own B E k w (.slice (some ⟨g, 0, none⟩) n c) ns) (m : Nat) (hm : m ≤ ns.length) :
    Own B E k w (.slice (some ⟨g, 0, none⟩) m c) (ns.take m) := by
  obtain ⟨h1, h2⟩ := h
  have hl : (ns.take m).length = m := by rw [List.length_take]; omega
  refine ⟨by simp [cellsOf], ?_⟩
  rcases h2 with ⟨e, _⟩ | ⟨g', cap', cur, e, hb, hh, hn, hx, hs, hc⟩
  · cases e
  · cases e
    refine .inr ⟨g, c, cur, by rw [hl], hb, hh, by omega, by omega, hs, ?_⟩
    rw [hl]
    have := congrArg (List.take m) hc
    rw [List.take_take] at this
    simp only [cellsOf, Nat.mul_one] at this ⊢
    rw [Nat.min_eq_left hm] at this
    rw [this, List.map_take]
theorem Own.cells {w : World} {B : Nat} {E : TypeId} {k : IntKind} {A : Option Addr} {m c : Nat} {ns : List Nat} (h : Own B E k w (.slice A m c) ns) (hn : 0 < ns.length) :
    ∃ g, A = some ⟨g, 0, none⟩ ∧ m = ns.length ∧ ns.length ≤ c ∧ B ≤ g ∧ g < w.heap.size ∧ ∀ i, i < ns.length → w.cell? ⟨g, i, none⟩ = some (.int k (wd ns i : Nat)) := by
  obtain ⟨g, c', e0, hg1, hg2, hc⟩ := h.head (fun e => by have := h.form hn; obtain ⟨g, c', e0, _⟩ := this; rw [e] at e0; cases e0)
  simp only [Value.slice.injEq] at e0
  obtain ⟨rfl, rfl, rfl⟩ := e0
  obtain ⟨Ax, cx, e0, hcx, hr⟩ := h.row
  simp only [Value.slice.injEq] at e0
  obtain ⟨e1, -, rfl⟩ := e0
  obtain ⟨rb, ro, e2, hrb, hcell⟩ := hr hn
  rw [← e1] at e2
  cases e2
  exact ⟨g, rfl, rfl, hc, hg1, hg2, fun i hi => by have := hcell i hi; rwa [Nat.zero_add] at this⟩
def payS (L : List Nat) (size k n most : Nat) : Nat := if most < n ∨ size < n + 8 then 1 else if L.length < k + n then 0 else 2
def sirfN (L : List Nat) : Nat := 256 * wd L 2 + wd L 3
def sirfS (size : Nat) (L : List Nat) : Nat :=
  if L.length ≤ 1 then 0 else if wd L 1 ≠ 162 then 1 else if L.length < 4 then 0 else if 1023 < sirfN L ∨ size < sirfN L + 8 then 1 else if L.length < 4 + sirfN L then 0 else 2
def ubxN (L : List Nat) : Nat := 256 * wd L 5 + wd L 4
def ubxS (size : Nat) (L : List Nat) : Nat :=
  if L.length ≤ 1 then 0 else if wd L 1 ≠ 98 then 1 else if L.length < 6 then 0 else if 512 < ubxN L ∨ size < ubxN L + 8 then 1 else if L.length < 6 + ubxN L then 0 else 2
section
variable {R0 : World → Prop} {v : Value} {F : Nat → Prop} {size : Nat} {L : List Nat} {w w' : World} {a b k : Nat}
def PayU (R0 : World → Prop) (v : Value) (F : Nat → Prop) (L : List Nat) (size a b k n most : Nat) (w : World) (e : Ending) (w' : World) : Prop :=
  ∃ j A m c st ms, e = .returned (.tuple #[.slice A m c, .int .i64 (st : Nat)]) ∧ j ≤ 1023 ∧ st = payS L size k n most ∧ Row .u8 w' (.slice A m c) ms ∧ ms.length ≤ 1023 ∧ (st = 2 → j = n ∧ ms = (L.drop k).take n ∧ Own w.heap.size 5 .u8 w' (.slice A m c) ((L.drop k).take n)) ∧ AtK R0 v F w' a b (k + j) ∧ Far (fun x => x = b) w w'
theorem look_payU (P : Looked R0 v F size L) (w : World) (a b k x y most : Nat) (h : AtK R0 v F w a b k) (hk : k ≤ L.length) (hx : x < 256) (hy : y < 256) (hm : most ≤ 1023) :
    Calls Tryz.prog 124 #[bv a b size, .int .u8 (x : Nat), .int .u8 (y : Nat), .int .i64 (most : Nat)] w (PayU R0 v F L size a b k (256 * x + y) most w) := by
  refine (look_payload P w a b k x y most h hk hx hy hm).mono ?_
  intro e w' q
  unfold PayT at q
  by_cases hc : most < 256 * x + y ∨ size < 256 * x + y + 8
  · rw [if_pos hc] at q
    exact ⟨0, none, 0, 0, 1, [], q.1, by omega, by unfold payS; rw [if_pos hc], Row.nil _ _, by simp, fun h => by omega, h.grew P q.2, Far.of_grew q.2⟩
  · rw [if_neg hc] at q
    obtain ⟨j, A, m, c, st, rfl, hj, h1, h2, hA, hF⟩ := q
    by_cases hl : L.length < k + (256 * x + y)
    · obtain ⟨rfl, rfl⟩ := h2 hl
      exact ⟨j, A, 0, c, 0, [], rfl, by omega, by unfold payS; rw [if_neg hc, if_pos hl], ⟨A, c, rfl, by simp, fun h => by simp at h⟩, by simp, fun h => by omega, hA, hF⟩
    · obtain ⟨rfl, rfl, hO⟩ := h1 (by omega)
      exact ⟨_, A, m, c, 2, _, rfl, by omega, by unfold payS; rw [if_neg hc, if_neg hl], hO.row, by rw [List.length_take]; omega, fun _ => ⟨rfl, rfl, hO⟩, hA, hF⟩
theorem bodyT_no {w0 : World} {st j : Nat} {A : Option Addr} {m c : Nat} {ns : List Nat} {n : Nat} (x : Nat) (hs : st = x) (h2 : x ≠ 2) (hj : j ≤ 5000) (hA : AtK R0 v F w a b j) (hF : Far (fun x => x = b) w0 w) :
    BodyT R0 v F L a b st ns n w0 (.returned (.tuple #[.slice A m c, .int .i64 (x : Nat)])) w :=
  ⟨j, A, m, c, by rw [hs], hj, fun h => absurd (hs.symm.trans h) h2, hA, hF⟩

set_option maxRecDepth 100000 in
set_option maxHeartbeats 4000000 in
theorem look_sirf (P : Looked R0 v F size L) (w : World) (a b : Nat) (h : AtK R0 v F w a b 1) (h1 : 0 < L.length) :
    Calls Tryz.prog 105 #[bv a b size] w (BodyT R0 v F L a b (sirfS size L) ((L.drop 4).take (sirfN L)) (4 + sirfN L) w) := by
  have hL : L.length ≤ 4096 := Nat.le_trans P.ll P.ls
  have hlb := h.lb
  have hla := h.la
  obtain ⟨W, hW, gW, c0, hWlt, c1, hWs⟩ := newB w (.func (.func 51) #[] #[.pointer (some ⟨a, 0, none⟩), .pointer (some ⟨b, 0, none⟩)]) (.int .i64 (size : Nat)) 109
  have G1 := (Grew.refl W).alloc (.cells #[.int .u8 162] 5)
  have HE := Lib.hid (look_expect P _ a b 1 (.slice (some ⟨W.heap.size, 0, none⟩) 1 1) [162] (h.grew P (gW.trans G1)) (by omega) (own_lit (B := 0) W 5 #[.int .u8 162] [162] 1 (Nat.zero_le _) rfl rfl (by simp [maxLen])).row (Bytes.of_mem (by simp)) (by simp) (fun _ x hx => by simp only [Value.ownBlock, Option.some.injEq] at hx; omega))
  unfold ExpT at HE
  have HX := Lib.hid (expS_one 162 L 1 (by omega))
  obtain ⟨x, hx⟩ : ∃ x, expS [162] L 1 = x := ⟨_, rfl⟩
  rw [hx] at HE HX
  have HP := Lib.hid P
  have hWb : b < W.heap.size := by omega
  have hWa : a < W.heap.size := by omega
  have GW := Lib.hid gW
  have HG1 := Lib.hid G1
  clear hx P h hWs gW
  unfold bv at HE ⊢
  go_enter Tryz.func105, Tryz.ntmps105
  go_upto_region 1 with fail
  clear hW
  go_wp2_with fail
  refine HE.out.mono ?_
  rintro e w1 ⟨j, rfl, hj, hj2, hA1, hF1⟩
  have hj1 : j ≤ 1 := hj
  have HF1 := Lib.hid ((Far.of_grew (HG1.out)).trans hF1 : Far (fun x => x = b) W w1)
  have HA1 := Lib.hid hA1
  have d0 := (HF1.out.cell (p := ⟨w.heap.size, 0, none⟩) hWlt (by simp only; omega)).trans c0
  have d1 := (HF1.out.cell (p := ⟨w.heap.size, 1, none⟩) hWlt (by simp only; omega)).trans c1
  have hw1 : w.heap.size < w1.heap.size := Nat.lt_of_lt_of_le hWlt HF1.out.size
  clear hF1 hA1 HE c0 c1 hj
  by_cases hx2 : x = 2
  · subst hx2
    have hj' := hj2 rfl
    simp only [List.length_cons, List.length_nil] at hj'
    subst hj'
    have hl1 : 1 < L.length ∧ wd L 1 = 162 := by
      have := HX.out
      by_cases hl : 1 < L.length
      · rw [if_pos hl] at this
        by_cases hc : wd L 1 = 162
        · exact ⟨hl, hc⟩
        · rw [if_neg hc] at this; omega
      · rw [if_neg hl] at this; omega
    have hS : Hid (sirfS size L = if L.length < 4 then 0 else if 1023 < sirfN L ∨ size < sirfN L + 8 then 1 else if L.length < 4 + sirfN L then 0 else 2) := by
      show _ = _
      unfold sirfS
      rw [if_neg (by omega), if_neg (fun h => h hl1.2)]
    have HT := Lib.hid (look_take HP.out w1 a b 2 2 HA1.out (by omega) (by omega))
    unfold TakeT bv at HT
    clear hj2 HX hj1
    go_wp2_with fail
    refine HT.out.mono ?_
    rintro e w2 ⟨j, A, m, c, st, rfl, hj, hq1, hq2, hA2, hF2⟩
    clear HT
    by_cases hl4 : L.length < 4
    · obtain ⟨rfl, rfl⟩ := hq2 (by omega)
      have hS0 : sirfS size L = 0 := by rw [hS.out, if_pos hl4]
      replace hF2 := Lib.hid hF2
      replace hA2 := Lib.hid hA2
      clear hq1 hS
      go_wp2_with fail
      go_ret2
      exact bodyT_no 0 hS0 (by omega) (by omega) hA2.out (((Far.of_grew GW.out).trans HF1.out).trans hF2.out)
    · obtain ⟨rfl, rfl, hO⟩ := hq1 (by omega)
      have hS1 : Hid (sirfS size L = if 1023 < sirfN L ∨ size < sirfN L + 8 then 1 else if L.length < 4 + sirfN L then 0 else 2) := by show _ = _; rw [hS.out, if_neg hl4]
      have htk : (L.drop 2).take 2 = [wd L 2, wd L 3] := by
        rw [List.take_add_one, List.take_add_one, List.take_zero, List.getElem?_drop, List.getElem?_drop, List.getElem?_eq_getElem (by omega), List.getElem?_eq_getElem (by omega), wd_lt (by omega), wd_lt (by omega)]
        rfl
      rw [htk] at hO
      obtain ⟨g, rfl, rfl, hcc, hg1, hg2, hcell⟩ := hO.cells (by simp)
      have y0 := hcell 0 (by simp)
      have y1 := hcell 1 (by simp)
      rw [show wd [wd L 2, wd L 3] 0 = wd L 2 from rfl] at y0
      rw [show wd [wd L 2, wd L 3] 1 = wd L 3 from rfl] at y1
      rw [show [wd L 2, wd L 3].length = 2 from rfl] at hcc ⊢
      have f0 := (hF2.cell (p := ⟨w.heap.size, 0, none⟩) hw1 (by simp only; omega)).trans d0
      have f1 := (hF2.cell (p := ⟨w.heap.size, 1, none⟩) hw1 (by simp only; omega)).trans d1
      have hw2 : w.heap.size < w2.heap.size := Nat.lt_of_lt_of_le hw1 hF2.size
      have KS : ∀ w', Far (fun x => x = b) w2 w' → Hid (w'.cell? ⟨w.heap.size, 0, none⟩ = some (.func (.func 51) #[] #[.pointer (some ⟨a, 0, none⟩), .pointer (some ⟨b, 0, none⟩)]) ∧ w'.cell? ⟨w.heap.size, 1, none⟩ = some (.int .i64 (size : Nat)) ∧ w'.cell? ⟨g, 0, none⟩ = some (.int .u8 (wd L 2 : Nat)) ∧ w'.cell? ⟨g, 1, none⟩ = some (.int .u8 (wd L 3 : Nat))) := fun w' q =>
        Lib.hid ⟨(q.cell (p := ⟨w.heap.size, 0, none⟩) hw2 (by simp only; omega)).trans f0, (q.cell (p := ⟨w.heap.size, 1, none⟩) hw2 (by simp only; omega)).trans f1, (q.cell (p := ⟨g, 0, none⟩) hg2 (by simp only; omega)).trans y0, (q.cell (p := ⟨g, 1, none⟩) hg2 (by simp only; omega)).trans y1⟩
      have HPU := fun w' (q : Grew w2 w') => Lib.hid (look_payU HP.out w' a b (2 + 2) (wd L 2) (wd L 3) 1023 (hA2.grew HP.out q) (by omega) (HP.out.bytes 2) (HP.out.bytes 3) (by omega))
      have HS2 : Hid (sirfS size L = payS L size (2 + 2) (sirfN L) 1023) := hS1
      rw [show 256 * wd L 2 + wd L 3 = sirfN L from rfl] at HPU
      have hNl : sirfN L ≤ 5000 ∨ 1023 < sirfN L := by omega
      unfold PayU bv at HPU
      have hb2 := HP.out.bytes 2
      have hb3 := HP.out.bytes 3
      have G : Grew w2 w2.drew := (Grew.refl w2).drew
      have FF := Lib.hid (((Far.of_grew GW.out).trans HF1.out).trans hF2)
      generalize wd L 2 = x at *
      generalize wd L 3 = y at *
      clear hS hS1 htk hO hcell hq1 hq2 hA2 hF2 y0 y1 f0 f1 d0 d1
      go_wp2_with fail
      go_region_held3 (fun w' => w'.cell? ⟨w.heap.size, 0, none⟩ = some (.func (.func 51) #[] #[.pointer (some ⟨a, 0, none⟩), .pointer (some ⟨b, 0, none⟩)]) ∧ w'.cell? ⟨w.heap.size, 1, none⟩ = some (.int .i64 (size : Nat)) ∧ w'.cell? ⟨g, 0, none⟩ = some (.int .u8 (x : Nat)) ∧ w'.cell? ⟨g, 1, none⟩ = some (.int .u8 (y : Nat))) (first | exact (KS _ (Far.of_grew G)).out | exact (KS _ ((Far.of_grew G).trans hF3)).out) ((go_at_call 124; refine (HPU _ G).out.mono ?_; rintro e w3 ⟨j, A, m, c3, st, ms, rfl, hj3, hst, hms, hml, hO3, hA3, hF3⟩; replace hst := Lib.hid hst; replace hO3 := Lib.hid hO3))
      all_goals go_wp2_with fail
      all_goals go_ret2
      all_goals
        rw [HS2.out, ← hst.out]
        exact ⟨2 + 2 + j, A, m, c3, rfl, by omega, fun h => ⟨by rw [(hO3.out h).1], own_base (hO3.out h).2.2 (Nat.le_trans (Nat.le_of_lt hw2) G.size)⟩, hA3, (FF.out.trans (Far.of_grew G)).trans hF3⟩
  · have e2 : ¬ (x : Int) = 2 := by omega
    have e3 : ((x : Int) == 2) = false := by simpa using e2
    have hS : Hid (sirfS size L = x) := by
      show _ = _
      have := HX.out
      unfold sirfS
      by_cases hl : 1 < L.length
      · rw [if_pos hl] at this
        rw [if_neg (by omega)]
        by_cases hc : wd L 1 = 162
        · rw [if_pos hc] at this; omega
        · rw [if_neg hc] at this; rw [if_pos hc, this]
      · rw [if_neg hl] at this; rw [if_pos (by omega), this]
    go_wp2_with fail
    go_ret2
    exact bodyT_no x hS.out hx2 (by omega) HA1.out ((Far.of_grew GW.out).trans HF1.out)
end
/- The program's frames: the body of a UBX frame. -/
section
variable {R0 : World → Prop} {v : Value} {F : Nat → Prop} {size : Nat} {L : List Nat} {w w' : World} {a b k : Nat}
set_option maxRecDepth 100000 in
set_option maxHeartbeats 4000000 in
theorem look_ubx (P : Looked R0 v F size L) (w : World) (a b : Nat) (h : AtK R0 v F w a b 1) (h1 : 0 < L.length) :
    Calls Tryz.prog 104 #[bv a b size] w (BodyT R0 v F L a b (ubxS size L) (wd L 2 :: wd L 3 :: (L.drop 6).take (ubxN L)) (6 + ubxN L) w) := by
  have hL : L.length ≤ 4096 := Nat.le_trans P.ll P.ls
  have hlb := h.lb
  have hla := h.la
  obtain ⟨W, hW, gW, c0, hWlt, c1, hWs⟩ := newB w (.func (.func 51) #[] #[.pointer (some ⟨a, 0, none⟩), .pointer (some ⟨b, 0, none⟩)]) (.int .i64 (size : Nat)) 109
  have G1 := (Grew.refl W).alloc (.cells #[.int .u8 98] 5)
  have HE := Lib.hid (look_expect P _ a b 1 (.slice (some ⟨W.heap.size, 0, none⟩) 1 1) [98] (h.grew P (gW.trans G1)) (by omega) (own_lit (B := 0) W 5 #[.int .u8 98] [98] 1 (Nat.zero_le _) rfl rfl (by simp [maxLen])).row (Bytes.of_mem (by simp)) (by simp) (fun _ x hx => by simp only [Value.ownBlock, Option.some.injEq] at hx; omega))
  unfold ExpT at HE
  have HX := Lib.hid (expS_one 98 L 1 (by omega))
  obtain ⟨x, hx⟩ : ∃ x, expS [98] L 1 = x := ⟨_, rfl⟩
  rw [hx] at HE HX
  have HP := Lib.hid P
  have hWb : b < W.heap.size := by omega
  have hWa : a < W.heap.size := by omega
  have GW := Lib.hid gW
  have HG1 := Lib.hid G1
  clear hx P h hWs gW
  unfold bv at HE ⊢
  go_enter Tryz.func104, Tryz.ntmps104
  go_upto_region 1 with fail
  clear hW
  go_wp2_with fail
  refine HE.out.mono ?_
  rintro e w1 ⟨j, rfl, hj, hj2, hA1, hF1⟩
  have hj1 : j ≤ 1 := hj
  have HF1 := Lib.hid ((Far.of_grew (HG1.out)).trans hF1 : Far (fun x => x = b) W w1)
  have HA1 := Lib.hid hA1
  have d0 := (HF1.out.cell (p := ⟨w.heap.size, 0, none⟩) hWlt (by simp only; omega)).trans c0
  have d1 := (HF1.out.cell (p := ⟨w.heap.size, 1, none⟩) hWlt (by simp only; omega)).trans c1
  have hw1 : w.heap.size < w1.heap.size := Nat.lt_of_lt_of_le hWlt HF1.out.size
  clear hF1 hA1 HE c0 c1 hj
  by_cases hx2 : x = 2
  · subst hx2
    have hj' := hj2 rfl
    simp only [List.length_cons, List.length_nil] at hj'
    subst hj'
    have hl1 : 1 < L.length ∧ wd L 1 = 98 := by
      have := HX.out
      by_cases hl : 1 < L.length
      · rw [if_pos hl] at this
        by_cases hc : wd L 1 = 98
        · exact ⟨hl, hc⟩
        · rw [if_neg hc] at this; omega
      · rw [if_neg hl] at this; omega
    have hS : Hid (ubxS size L = if L.length < 6 then 0 else if 512 < ubxN L ∨ size < ubxN L + 8 then 1 else if L.length < 6 + ubxN L then 0 else 2) := by
      show _ = _
      unfold ubxS
      rw [if_neg (by omega), if_neg (fun h => h hl1.2)]
    have HT := Lib.hid (look_take HP.out w1 a b 2 4 HA1.out (by omega) (by omega))
    unfold TakeT bv at HT
    clear hj2 HX hj1
    go_wp2_with fail
    refine HT.out.mono ?_
    rintro e w2 ⟨j, A, m, c, st, rfl, hj, hq1, hq2, hA2, hF2⟩
    clear HT
    by_cases hl4 : L.length < 6
    · obtain ⟨rfl, rfl⟩ := hq2 (by omega)
      have hS0 : ubxS size L = 0 := by rw [hS.out, if_pos hl4]
      replace hF2 := Lib.hid hF2
      replace hA2 := Lib.hid hA2
      clear hq1 hS
      go_wp2_with fail
      go_ret2
      exact bodyT_no 0 hS0 (by omega) (by omega) hA2.out (((Far.of_grew GW.out).trans HF1.out).trans hF2.out)
    · obtain ⟨rfl, rfl, hO⟩ := hq1 (by omega)
      have hS1 : Hid (ubxS size L = if 512 < ubxN L ∨ size < ubxN L + 8 then 1 else if L.length < 6 + ubxN L then 0 else 2) := by show _ = _; rw [hS.out, if_neg hl4]
      have htk : (L.drop 2).take 4 = [wd L 2, wd L 3, wd L 4, wd L 5] := by
        rw [List.take_add_one, List.take_add_one, List.take_add_one, List.take_add_one, List.take_zero, List.getElem?_drop, List.getElem?_drop, List.getElem?_drop, List.getElem?_drop, List.getElem?_eq_getElem (by omega), List.getElem?_eq_getElem (by omega), List.getElem?_eq_getElem (by omega), List.getElem?_eq_getElem (by omega), wd_lt (by omega), wd_lt (by omega), wd_lt (by omega), wd_lt (by omega)]
        rfl
      rw [htk] at hO
      obtain ⟨g, rfl, rfl, hcc, hg1, hg2, hcell⟩ := hO.cells (by simp)
      have y0 := hcell 2 (by simp)
      have y1 := hcell 3 (by simp)
      rw [show wd [wd L 2, wd L 3, wd L 4, wd L 5] 2 = wd L 4 from rfl] at y0
      rw [show wd [wd L 2, wd L 3, wd L 4, wd L 5] 3 = wd L 5 from rfl] at y1
      rw [show [wd L 2, wd L 3, wd L 4, wd L 5].length = 4 from rfl] at hO hcc ⊢
      have f0 := (hF2.cell (p := ⟨w.heap.size, 0, none⟩) hw1 (by simp only; omega)).trans d0
      have f1 := (hF2.cell (p := ⟨w.heap.size, 1, none⟩) hw1 (by simp only; omega)).trans d1
      have hw2 : w.heap.size < w2.heap.size := Nat.lt_of_lt_of_le hw1 hF2.size
      have hw12 : w1.heap.size ≤ w2.heap.size := hF2.size
      have hgb : g ≠ b := by have := hA2.lb; have := HA1.out.lb; omega
      have KS : ∀ w', Far (fun x => x = b) w2 w' → Hid (w'.cell? ⟨w.heap.size, 0, none⟩ = some (.func (.func 51) #[] #[.pointer (some ⟨a, 0, none⟩), .pointer (some ⟨b, 0, none⟩)]) ∧ w'.cell? ⟨w.heap.size, 1, none⟩ = some (.int .i64 (size : Nat)) ∧ w'.cell? ⟨g, 2, none⟩ = some (.int .u8 (wd L 4 : Nat)) ∧ w'.cell? ⟨g, 3, none⟩ = some (.int .u8 (wd L 5 : Nat))) := fun w' q =>
        Lib.hid ⟨(q.cell (p := ⟨w.heap.size, 0, none⟩) hw2 (by simp only; omega)).trans f0, (q.cell (p := ⟨w.heap.size, 1, none⟩) hw2 (by simp only; omega)).trans f1, (q.cell (p := ⟨g, 2, none⟩) hg2 hgb).trans y0, (q.cell (p := ⟨g, 3, none⟩) hg2 hgb).trans y1⟩
      have HPU := fun w' (q : Grew w2 w') => Lib.hid (look_payU HP.out w' a b (2 + 4) (wd L 5) (wd L 4) 512 (hA2.grew HP.out q) (by omega) (HP.out.bytes 5) (HP.out.bytes 4) (by omega))
      have HS2 : Hid (ubxS size L = payS L size (2 + 4) (ubxN L) 512) := hS1
      rw [show 256 * wd L 5 + wd L 4 = ubxN L from rfl] at HPU
      unfold PayU bv at HPU
      have hb2 := HP.out.bytes 4
      have hb3 := HP.out.bytes 5
      have G : Grew w2 w2.drew := (Grew.refl w2).drew
      have FF := Lib.hid (((Far.of_grew GW.out).trans HF1.out).trans hF2)
      have HO2 := Lib.hid (hO.prefix 2 (by simp))
      rw [show [wd L 2, wd L 3, wd L 4, wd L 5].take 2 = [wd L 2, wd L 3] from rfl] at HO2
      generalize wd L 2 = z0 at *
      generalize wd L 3 = z1 at *
      generalize wd L 4 = x at *
      generalize wd L 5 = y at *
      have hc2 : 2 ≤ c := by have : 4 ≤ c := hcc; omega
      have hc4 : 4 ≤ c := hcc
      clear hS hS1 htk hO hcell hq1 hq2 hA2 hF2 y0 y1 f0 f1 d0 d1 hcc
      go_upto_region 8 with (go_region_held3 (fun w' => w'.cell? ⟨w.heap.size, 0, none⟩ = some (.func (.func 51) #[] #[.pointer (some ⟨a, 0, none⟩), .pointer (some ⟨b, 0, none⟩)]) ∧ w'.cell? ⟨w.heap.size, 1, none⟩ = some (.int .i64 (size : Nat)) ∧ w'.cell? ⟨g, 2, none⟩ = some (.int .u8 (x : Nat)) ∧ w'.cell? ⟨g, 3, none⟩ = some (.int .u8 (y : Nat))) (first | exact (KS _ (Far.of_grew G)).out | exact (KS _ ((Far.of_grew G).trans hF3)).out) ((go_at_call 124; refine (HPU _ G).out.mono ?_; rintro e w3 ⟨j, A, m, c3, st, ms, rfl, hj3, hst, hms, hml, hO3, hA3, hF3⟩; replace hst := Lib.hid hst; replace hO3 := Lib.hid hO3)))
      have hF4 := (Far.of_grew G).trans hF3
      have hOw := HO2.out.far hF4 (fun y hy e => by simp only [Value.ownBlock, Option.some.injEq] at hy; omega)
      have hw13 : w1.heap.size ≤ w3.heap.size := Nat.le_trans hw12 hF4.size
      have hw3 : w.heap.size ≤ w3.heap.size := Nat.le_trans (Nat.le_of_lt hw2) hF4.size
      have HLT := Lib.hid (fun y (hy : F y) => HP.out.lt w1 y HA1.out.r hy)
      have hO4 := Lib.hid hOw
      have hms' := Lib.hid hms
      have hml' := Lib.hid hml
      have hF5 := Lib.hid (FF.out.trans hF4)
      have hA5 := Lib.hid hA3
      have HW1 : Hid (w1.heap.size ≤ g) := hg1
      clear hOw hms hml hF4 hF3 hA3 KS HO2 HPU hb2 hb3
      go_wp2_with (refine wpList_joinN _ rfl _ _ 22 rfl w1.heap.size 5 .u8 1 Tryz.underlying22 infoU8 (.slice (some ⟨g, 0, none⟩) 2 c) [z0, z1] rfl hO4.out _ ms rfl hms'.out (by have := hml'.out; simp only [List.length_cons, List.length_nil]; omega) (by decide) hw13 ?_; intro v4 w4 hown hgrow hnil)
      have hfo := far_own hO4.out hgrow
      have hla1 := HA1.out.la
      have hlb1 := HA1.out.lb
      have hA6 := hA5.out.far HP.out hfo (fun y hy => ⟨fun e => by omega, fun e => by omega, fun e => by have := HLT.out y e; omega⟩)
      have hF6 := hF5.out.beyond hfo (fun y hy => .inr (by omega))
      obtain ⟨A4, c4, rfl, hc4⟩ := hown.row.form
      go_ret2
      rw [HS2.out, ← hst.out]
      exact ⟨2 + 4 + j, A4, _, c4, rfl, by omega, fun h => ⟨by rw [(hO3.out h).1], by rw [← (hO3.out h).2.1]; exact own_base hown (Nat.le_of_lt hw1)⟩, hA6, hF6⟩
  · have e2 : ¬ (x : Int) = 2 := by omega
    have e3 : ((x : Int) == 2) = false := by simpa using e2
    have hS : Hid (ubxS size L = x) := by
      show _ = _
      have := HX.out
      unfold ubxS
      by_cases hl : 1 < L.length
      · rw [if_pos hl] at this
        rw [if_neg (by omega)]
        by_cases hc : wd L 1 = 98
        · rw [if_pos hc] at this; omega
        · rw [if_neg hc] at this; rw [if_pos hc, this]
      · rw [if_neg hl] at this; rw [if_pos (by omega), this]
    go_wp2_with fail
    go_ret2
    exact bodyT_no x hS.out hx2 (by omega) HA1.out ((Far.of_grew GW.out).trans HF1.out)
end
end Go.Proofs.YtlcmjedbdopglaaGreatDoor
