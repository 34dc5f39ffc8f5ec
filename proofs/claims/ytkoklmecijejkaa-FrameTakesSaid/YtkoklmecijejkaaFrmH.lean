/-
  The document's frames: what is taken out next.
-/
import Derived.Test.YtkoklmecijejkaaFrmG
namespace Go.Proofs.Ytkoklmecijejkaa
open Go.RowKit
set_option linter.unusedVariables false

theorem next_short {size : Nat} {M : List Nat} (h : (standOf size M).1 = 0) : nextOf size M = (none, 0, M) := by
  cases M with
  | nil => rfl
  | cons x M => unfold nextOf; rw [if_pos h]
theorem next_one {size : Nat} {M : List Nat} (h : (standOf size M).1 = 1) : nextOf size M = (some ((standOf size M).2.1, (standOf size M).2.2.1), 0, M.drop (standOf size M).2.2.2) ∧ (standOf size M).2.2.2 ≤ M.length := by
  cases M with
  | nil => simp [standOf] at h
  | cons x M =>
    refine ⟨by conv => lhs; unfold nextOf
               rw [if_neg (by omega), if_pos h], ?_⟩
    obtain ⟨k, ns, t, r, hb⟩ : ∃ k ns t r, bodyOf size (x :: M) = (k, ns, t, r) := ⟨_, _, _, _, rfl⟩
    have e := stand_eq (size := size) (L := x :: M) (by simp) hb
    have hc := common_le (frameBytes k ns) (x :: M)
    by_cases h1 : r = true
    · rw [if_pos h1] at e; rw [e] at h; simp at h
    · rw [if_neg h1] at e
      by_cases h2 : t = true ∧ common (frameBytes k ns) (x :: M) = (frameBytes k ns).length
      · rw [if_pos h2] at e; rw [e]; simp only; omega
      · rw [if_neg h2] at e
        split at e
        · rw [e] at h; simp at h
        · split at e <;> (rw [e] at h; simp at h)
theorem next_wrong {size : Nat} {M : List Nat} (h0 : (standOf size M).1 ≠ 0) (h1 : (standOf size M).1 ≠ 1) : nextOf size M = ((nextOf size (M.drop 1)).1, (nextOf size (M.drop 1)).2.1 + 1, (nextOf size (M.drop 1)).2.2) ∧ 0 < M.length := by
  cases M with
  | nil => simp [standOf] at h0
  | cons x M =>
    refine ⟨?_, by simp⟩
    conv => lhs; unfold nextOf
    rw [if_neg h0, if_neg h1]
    rfl
theorem Bytes.drop {L : List Nat} (h : Bytes L) (n : Nat) : Bytes (L.drop n) := by
  intro i
  have := h (n + i)
  simpa [wd, List.getD_eq_getElem?_getD, List.getElem?_drop] using this

/-- The frame that is told, where there is one; else the zero one. -/
def frameOf (o : Option (Nat × List Nat)) : Nat × List Nat := o.getD (0, [])
def RefNext (g size : Nat) (L0 : Value) (L : List Nat) (lost : Nat) (w : World) (e : Ending) (w' : World) : Prop :=
  ∃ fv Lv, e = .returned (.tuple #[.agg #[.int .u8 ((frameOf (nextOf size L).1).1 : Nat), fv], .bool (nextOf size L).1.isSome, .int .i64 ((nextOf size L).2.1 : Nat)]) ∧ Own w.heap.size 5 .u8 w' fv (frameOf (nextOf size L).1).2 ∧ (frameOf (nextOf size L).1).1 < 256 ∧
    RefAt w' g size Lv (nextOf size L).2.2 lost ∧ Lv.ownBlock = L0.ownBlock ∧ Far (fun k => k = g) w w'

theorem NewF.far {F : Nat → Prop} {w w' : World} {b : Nat} (h : NewF w b) (g : Far F w w') (hF : ¬ F b) : NewF w' b :=
  ⟨Nat.lt_of_lt_of_le h.lt g.size, (g.cell (p := ⟨b, 0, none⟩) h.lt hF).trans h.c0, (g.cell (p := ⟨b, 1, none⟩) h.lt hF).trans h.c1, (g.frozen (p := ⟨b, 0, none⟩) h.lt hF).trans h.f0, (g.frozen (p := ⟨b, 1, none⟩) h.lt hF).trans h.f1⟩
/-- The answer's variable is written: nothing else of what was there. -/
theorem far_two {F : Nat → Prop} {w V : World} {b : Nat} (h : Far F w V) (hb : w.heap.size ≤ b) (x y : Value) : Far F w ((V.setCell ⟨b, 0, none⟩ x).setCell ⟨b, 1, none⟩ y) := by
  have k : Far (fun k => k = b) V ((V.setCell ⟨b, 0, none⟩ x).setCell ⟨b, 1, none⟩ y) := Far.setCell (F := fun k => k = b) (Far.one V ⟨b, 0, none⟩ x) (p := ⟨b, 1, none⟩) rfl y
  exact ⟨k.os.trans h.os, k.tape.trans h.tape, k.output.trans h.output, Nat.le_trans h.size k.size, fun i hi hF => (k.block i (Nat.lt_of_lt_of_le hi h.size) (fun e => by have : i = b := e; omega)).trans (h.block i hi hF)⟩
theorem back_two {w1 : World} {b : Nat} (N : NewF w1 b) (x y : Value) (o : Obj) : (((w1.setCell ⟨b, 0, none⟩ x).setCell ⟨b, 1, none⟩ y).alloc o).cell? ⟨b, 0, none⟩ = some x ∧ (((w1.setCell ⟨b, 0, none⟩ x).setCell ⟨b, 1, none⟩ y).alloc o).cell? ⟨b, 1, none⟩ = some y := by
  have ne : ∀ {i j : Nat}, i ≠ j → (⟨b, i, none⟩ : Addr) ≠ ⟨b, j, none⟩ := fun hj e => hj (by injection e)
  have g := (Grew.refl ((w1.setCell ⟨b, 0, none⟩ x).setCell ⟨b, 1, none⟩ y)).alloc o
  have hb : b < ((w1.setCell ⟨b, 0, none⟩ x).setCell ⟨b, 1, none⟩ y).heap.size := by simpa [World.setCell] using N.lt
  refine ⟨(g.cell (p := ⟨b, 0, none⟩) hb).trans ?_, (g.cell (p := ⟨b, 1, none⟩) hb).trans ?_⟩
  · rw [World.cell?_setCell_other _ _ _ _ (ne (by omega))]; exact World.cell?_setCell_same _ _ _ N.c0
  · exact World.cell?_setCell_same _ _ _ ((World.cell?_setCell_other _ _ _ _ (ne (by omega))).trans N.c1)
theorem refNext_of {g size lost : Nat} {L0 : Value} {L : List Nat} {w w' : World} {o : Option (Nat × List Nat)} {d : Nat} {R : List Nat} {Lv : Value} (hN : nextOf size L = (o, d, R)) (k : Nat) (fv : Value) (hk : k = (frameOf o).1) (hk2 : k < 256) (ho : Own w.heap.size 5 .u8 w' fv (frameOf o).2) (hR : RefAt w' g size Lv R lost) (hb : Lv.ownBlock = L0.ownBlock) (hF : Far (fun k => k = g) w w') :
    RefNext g size L0 L lost w (.returned (.tuple #[.agg #[.int .u8 k, fv], .bool o.isSome, .int .i64 (d : Nat)])) w' := by
  refine ⟨fv, Lv, ?_, ?_, ?_, ?_, hb, hF⟩
  · rw [hN, hk]
  · rw [hN]; exact ho
  · rw [hN]; rw [← hk]; exact hk2
  · rw [hN]; exact hR
theorem far_at {V : World} {b : Nat} (x y : Value) : Far (fun k => k = b) V ((V.setCell ⟨b, 0, none⟩ x).setCell ⟨b, 1, none⟩ y) := Far.setCell (F := fun k => k = b) (Far.one V ⟨b, 0, none⟩ x) (p := ⟨b, 1, none⟩) rfl y

set_option maxRecDepth 1000000 in
set_option maxHeartbeats 4000000 in
theorem ref08_Next (g size : Nat) (L0 : Value) (L : List Nat) (lost : Nat) (w : World) (h : RefAt w g size L0 L lost) (hB : Bytes L) (hl : L.length ≤ 4500) (hs : size ≤ 100000) :
    Calls Try.prog 12 #[.pointer (some ⟨g, 0, none⟩)] w (RefNext g size L0 L lost w) := by
  have lt := h.lt
  have HO0 : Hid (∀ b, L0.ownBlock = some b → b < w.heap.size) := fun b hb => (h.own b hb).1
  have H := Lib.hid h
  have HBL := Lib.hid hB
  clear h hB
  go_enter Try.func12, Try.ntmps12
  go_wp2_with fail
  obtain ⟨W, hW, gW, NR, hWs⟩ := newF w 34
  rw [hW]
  have HWS := Lib.hid hWs
  clear hW hWs
  go_loopw [5] (fun i wr => ∃ (d : Nat) (M : List Nat) (Lv : Value), i = .int .i64 d ∧ M.length + d = L.length ∧ Hid (RefAt wr g size Lv M lost) ∧ Hid (Lv.ownBlock = L0.ownBlock) ∧ Hid (Far (fun k => k = g) W wr) ∧ Hid (Bytes M) ∧ Hid (nextOf size L = ((nextOf size M).1, (nextOf size M).2.1 + d, (nextOf size M).2.2))) (fun i _ => L.length - (intOf i).toNat)
  case atStart => exact ⟨0, L, L0, rfl, rfl, H.out.grew gW, rfl, Far.refl _ _, HBL.out, rfl⟩
  case round =>
    clear H HBL
    obtain ⟨d, M, Lv, rfl, hd, hR, hLv, hF, hBM, hN⟩ := hrel
    have HBG := Lib.hid (ref08_Begin g size Lv M lost wr hR.out hBM.out (by omega) hs)
    obtain ⟨st, hst⟩ : ∃ st, (standOf size M).1 = st := ⟨_, rfl⟩
    unfold BeginTells at HBG
    rw [hst] at HBG
    have HST := Lib.hid hst
    have NRr := NR.far hF.out (by omega)
    have HNR := Lib.hid NRr
    clear hst NRr
    go_wp2_with fail
    refine HBG.out.mono ?_
    clear HBG
    rintro e w1 ⟨k, n, A1, m1, c1, rfl, hk, hn, h1, g1⟩
    have H1 := Lib.hid h1
    have G1 := Lib.hid g1
    have nr := HNR.out.grew g1
    have rlt := nr.lt
    have NR1 := Lib.hid nr
    obtain ⟨_, r0, r1, q0, q1⟩ := nr
    clear h1 g1
    rcases (show st = 0 ∨ st = 1 ∨ (st ≠ 0 ∧ st ≠ 1) by omega) with h0 | h0 | h0
    · subst h0
      go_wp2_with fail
      obtain ⟨z0, z1⟩ := back_two NR1.out (.int .u8 0) (.slice none 0 0) (.cells #[.int .u8 (k : Nat), .slice A1 m1 c1] 34)
      refine bodyPost_ret (by simp [results, Try.results12, go_sem, z0, z1]; try rfl) rfl ?_
      clear z0 z1
      refine refNext_of (Lv := Lv) (show nextOf size L = (none, d, M) by rw [hN.out, next_short HST.out, Nat.zero_add]) 0 _ rfl (by omega) (Own.nil _ _ _ _) (((hR.out.grew G1.out).far (far_at _ _) (by omega) (fun b hb => by rw [hLv.out] at hb; have := HO0.out b hb; omega)).grew ((Grew.refl _).alloc _)) hLv.out ((far_two (((Far.of_grew gW).trans hF.out).trans (Far.of_grew G1.out)) (Nat.le_refl _) _ _).trans (Far.of_grew ((Grew.refl _).alloc _)))
    · subst h0
      have hn1 := (H1.out rfl)
      obtain ⟨e1, hle⟩ := next_one HST.out
      have hN2 : Hid (nextOf size L = (some (k, (standOf size M).2.2.1), d, M.drop n)) := by show _ = _; rw [hN.out, e1, hn1.1, hn1.2.1, Nat.zero_add]
      rw [← hn1.2.1] at hle
      have HO := Lib.hid hn1.2.2
      clear H1 e1 hn1 hN
      obtain ⟨ns, hns⟩ : ∃ ns, (standOf size M).2.2.1 = ns := ⟨_, rfl⟩
      rw [hns] at HO hN2
      clear hns HST
      have HD := fun w' (k : Grew wr w') => Lib.hid (ref06_Drop g size Lv M lost n w' (hR.out.grew k) (by omega) (by omega))
      go_wp2_with fail
      refine (HD _ (G1.out.alloc _)).out.mono ?_
      clear HD
      rintro e w3 ⟨L3, rfl, hR3, hb3, hF3⟩
      have hmin : min (n : Int).toNat M.length = n := by omega
      rw [hmin] at hR3 ⊢
      have GA := (Grew.refl w1).alloc (.cells #[.int .u8 (k : Nat), .slice A1 m1 c1] 34)
      have t0 : w3.cell? ⟨w1.heap.size, 0, none⟩ = some (.int .u8 (k : Nat)) := (hF3.cell (p := ⟨w1.heap.size, 0, none⟩) (by simp) (by have := G1.out.size; have := hR.out.lt; show ¬ w1.heap.size = g; omega)).trans (by simp [go_sem])
      have t1 : w3.cell? ⟨w1.heap.size, 1, none⟩ = some (.slice A1 m1 c1) := (hF3.cell (p := ⟨w1.heap.size, 1, none⟩) (by simp) (by have := G1.out.size; have := hR.out.lt; show ¬ w1.heap.size = g; omega)).trans (by simp [go_sem])
      have NR3 := (NR1.out.grew GA).far hF3 (by omega)
      have HN3 := Lib.hid NR3
      clear r0 r1 q0 q1
      obtain ⟨_, r0, r1, q0, q1⟩ := NR3
      have HR3 := Lib.hid hR3
      have HF3 := Lib.hid hF3
      have HG := Lib.hid GA
      clear hR3 hF3 GA
      go_wp2_with fail
      refine bodyPost_ret (by simp [results, Try.results12, go_sem, r0, r1]; try rfl) rfl ?_
      have FB : Far (fun b => b = g) w w3 := (((Far.of_grew gW).trans hF.out).trans (Far.of_grew (G1.out.trans HG.out))).trans HF3.out
      have hwr : w.heap.size ≤ wr.heap.size := Nat.le_trans gW.size hF.out.size
      refine refNext_of (Lv := L3) hN2.out k _ rfl hk ?_ (HR3.out.far (far_at _ _) (by omega) (fun b hb => by rw [hb3, hLv.out] at hb; have := HO0.out b hb; omega)) (hb3.trans hLv.out) (far_two FB (Nat.le_refl _) _ _)
      refine own_base (((HO.out.grew HG.out).far HF3.out (fun b hb e => ?_)).far (far_at _ _) (fun b hb e => ?_)) hwr
      · have := World.ownsRow.lt HO.out b hb; have := hR.out.lt; have e' : b = g := e; omega
      · have := World.ownsRow.lt HO.out b hb; have := HWS.out; have := hF.out.size; have e' : b = w.heap.size := e; omega
    · obtain ⟨hs0, hs1⟩ := h0
      obtain ⟨e1, hpos⟩ := next_wrong (size := size) (M := M) (by rw [HST.out]; exact hs0) (by rw [HST.out]; exact hs1)
      have HN2 : Hid (nextOf size L = ((nextOf size (M.drop 1)).1, (nextOf size (M.drop 1)).2.1 + (d + 1), (nextOf size (M.drop 1)).2.2)) := by
        show _ = _; rw [hN.out, e1]; simp only; rw [Nat.add_assoc, Nat.add_comm 1 d]
      clear H1 e1 hN HST
      have HD := fun w' (k : Grew wr w') => Lib.hid (ref06_Drop g size Lv M lost 1 w' (hR.out.grew k) (by omega) (by omega))
      have i0 : ¬ (st : Int) = 0 := by omega
      have i1 : ¬ (st : Int) = 1 := by omega
      go_wp2_with fail
      refine (HD _ (G1.out.alloc _)).out.mono ?_
      clear HD
      rintro e w3 ⟨L3, rfl, hR3, hb3, hF3⟩
      have hmin : min (1 : Int).toNat M.length = 1 := by have : (1 : Int).toNat = 1 := rfl; omega
      rw [hmin] at hR3 ⊢
      have HR3 := Lib.hid hR3
      have HF3 := Lib.hid hF3
      clear hR3 hF3 r0 r1 q0 q1
      go_wp2_with fail
      go_roundw
      case rel => exact ⟨d + 1, M.drop 1, L3, by simp, by rw [List.length_drop]; omega, HR3.out, hb3.trans hLv.out, (hF.out.trans (Far.of_grew (G1.out.alloc _))).trans HF3.out, hBM.out.drop 1, HN2.out⟩
      case measure => simp [intOf]; omega
end Go.Proofs.Ytkoklmecijejkaa
