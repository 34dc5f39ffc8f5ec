/-
  An argument that is a list of edges and messages that come.
-/
import Derived.Test.YtkijonnbngnliaaPalA
import Derived.Deep.Matrix
import Derived.ProofKit
import Derived.OpenShut
namespace Go.Proofs.Ytkijonnbngnliaa
open Go.RowKit Go.ChangeShapes Go.WideShapes Go.Deep
set_option linter.unusedVariables false

/-- What an argument that is a list of what comes tells. -/
def PosIn (W : World) (A : Option Addr) (len cap : Nat) (l : List Po) : Prop := l.length = len ∧ PosAt W (.slice A len cap) l ∧ PosOk l
theorem cellsPo : Try.prog.cellsOf 35 = 9 := by kernel_rfl
theorem cellsMsg : Try.prog.cellsOf 33 = 6 := by kernel_rfl
theorem cellsPU8 : Try.prog.cellsOf 5 = 1 := by kernel_rfl
theorem cellsPB : Try.prog.cellsOf 4 = 1 := by kernel_rfl
theorem cellsPI : Try.prog.cellsOf 3 = 1 := by kernel_rfl
theorem cellsPI64 : Try.prog.cellsOf 2 = 1 := by kernel_rfl
theorem list4P {α : Type} {l : List α} (h : l.length = 4) : ∃ a b c d, l = [a, b, c, d] := by
  match l, h with
  | [a, b, c, d], _ => exact ⟨a, b, c, d, rfl⟩
theorem list6P {α : Type} {l : List α} (h : l.length = 6) : ∃ a b c d e f, l = [a, b, c, d, e, f] := by
  match l, h with
  | [a, b, c, d, e, f], _ => exact ⟨a, b, c, d, e, f, rfl⟩
theorem list9P {α : Type} {l : List α} (h : l.length = 9) : ∃ a b c d e f g i j, l = [a, b, c, d, e, f, g, i, j] := by
  match l, h with
  | [a, b, c, d, e, f, g, i, j], _ => exact ⟨a, b, c, d, e, f, g, i, j, rfl⟩
set_option maxHeartbeats 1000000 in
theorem open_msgP {H : Type} {enc : TypeId × Value → H} {W : World} {fuel : Nat} {c0 c1 c2 c3 c4 c5 : Value} {x : DataW H × List MemPlace}
    (hf : DataW.trod enc Try.prog W 0 (fun _ => true) true fuel 33 [c0, c1, c2, c3, c4, c5] = some x) :
    ∃ m : Ms, c0 = .int .u8 m.kind ∧ c1 = .bool m.utc ∧ c2 = .int .i64 m.sec ∧ c3 = .bool m.leap ∧ c4 = .int .i64 m.cycle ∧ c5 = .bool m.next := by
  obtain ⟨xs, n', _, hx', _, hlen', hg⟩ := DataW.trod_struct Try.underlying33 hf
  obtain ⟨y0, y1, y2, y3, y4, y5, rfl⟩ := list6P hlen'
  have g0 := hg 0 _ rfl
  have g1 := hg 1 _ rfl
  have g2 := hg 2 _ rfl
  have g3 := hg 3 _ rfl
  have g4 := hg 4 _ rfl
  have g5 := hg 5 _ rfl
  simp only [List.getElem_toArray, List.getElem_cons_zero, List.getElem_cons_succ, cellsPU8, cellsPB, cellsPI64, cellsPI, List.drop_zero, List.drop_succ_cons, List.take_succ_cons, List.take_zero, List.getElem?_cons_zero, List.getElem?_cons_succ] at g0 g1 g2 g3 g4 g5
  obtain ⟨k0, e0, _⟩ := DataW.trod_int Try.underlying5 g0
  obtain ⟨k1, e1, _⟩ := DataW.trod_bool Try.underlying4 g1
  obtain ⟨k2, e2, _⟩ := DataW.trod_int Try.underlying2 g2
  obtain ⟨k3, e3, _⟩ := DataW.trod_bool Try.underlying4 g3
  obtain ⟨k4, e4, _⟩ := DataW.trod_int Try.underlying3 g4
  obtain ⟨k5, e5, _⟩ := DataW.trod_bool Try.underlying4 g5
  simp only [List.cons.injEq, and_true] at e0 e1 e2 e3 e4 e5
  exact ⟨⟨k0, k1, k2, k3, k4, k5⟩, e0, e1, e2, e3, e4, e5⟩
set_option maxHeartbeats 1000000 in
theorem open_poP {H : Type} {enc : TypeId × Value → H} {W : World} {fuel : Nat} {c0 c1 c2 c3 c4 c5 c6 c7 c8 : Value} {x : DataW H × List MemPlace}
    (hf : DataW.trod enc Try.prog W 0 (fun _ => true) true fuel 35 [c0, c1, c2, c3, c4, c5, c6, c7, c8] = some x) :
    ∃ o : Po, [c0, c1, c2, c3, c4, c5, c6, c7, c8] = poC o ∧ (Lit.int .i64 o.at_).wf = true := by
  obtain ⟨xs, n', _, hx', _, hlen', hg⟩ := DataW.trod_struct Try.underlying35 hf
  obtain ⟨y0, y1, y2, y3, rfl⟩ := list4P hlen'
  have g0 := hg 0 _ rfl
  have g1 := hg 1 _ rfl
  have g2 := hg 2 _ rfl
  have g3 := hg 3 _ rfl
  simp only [List.getElem_toArray, List.getElem_cons_zero, List.getElem_cons_succ, cellsPB, cellsPI64, cellsMsg, List.drop_zero, List.drop_succ_cons, List.take_succ_cons, List.take_zero, List.getElem?_cons_zero, List.getElem?_cons_succ] at g0 g1 g2 g3
  obtain ⟨k0, e0, _⟩ := DataW.trod_bool Try.underlying4 g0
  obtain ⟨k1, e1, _⟩ := DataW.trod_bool Try.underlying4 g1
  obtain ⟨k2, e2, _, w2⟩ := DataW.trod_int Try.underlying2 g2
  obtain ⟨m, m0, m1, m2, m3, m4, m5⟩ := open_msgP g3
  simp only [List.cons.injEq, and_true] at e0 e1 e2
  subst e0 e1 e2 m0 m1 m2 m3 m4 m5
  exact ⟨⟨k0, k1, k2, m⟩, rfl, w2⟩
set_option maxHeartbeats 1000000 in
theorem open_pos {H : Type} {enc : TypeId × Value → H} {W : World} {fuel : Nat} {A : Option Addr} {len cap : Nat} {x : DataW H × List MemPlace}
    (hf : DataW.trod enc Try.prog W 0 (fun _ => true) true fuel 22 [.slice A len cap] = some x) :
    ∃ l, PosIn W A len cap l := by
  rcases open_slice Try.underlying22 hf with ⟨hcs, _⟩ | ⟨a, l, c, m, n, D, Pl, hcs, hb, hl, hm, hmm, hx, hr⟩
  · simp only [List.cons.injEq, Value.slice.injEq, and_true] at hcs
    obtain ⟨rfl, rfl, rfl⟩ := hcs
    exact ⟨[], rfl, ⟨none, 0, rfl, Nat.le_refl _, fun h => by simp at h⟩, fun i => by simp [po, noPo]⟩
  · simp only [List.cons.injEq, Value.slice.injEq, and_true] at hcs
    obtain ⟨rfl, rfl, rfl⟩ := hcs
    simp only [if_true] at hmm
    have hmm' := hmm.symm
    subst hmm'
    have each : ∀ i, i < len → ∃ y : Po, (∀ k u, (poC y)[k]? = some u → W.cell? (a.add (i * 9 + k)) = some u) ∧ (Lit.int .i64 y.at_).wf = true := by
      intro i hi
      obtain ⟨cs', h1, h2⟩ := hr i (by omega)
      rw [cellsPo] at h1
      obtain ⟨_, hl', hc'⟩ := World.cells?_some h1
      obtain ⟨c0, c1, c2, c3, c4, c5, c6, c7, c8, rfl⟩ := list9P hl'
      obtain ⟨o, ho, hw⟩ := open_poP h2
      refine ⟨o, fun k u hu => ?_, hw⟩
      have hk : k < 9 := by have := (List.getElem?_eq_some_iff.1 hu).1; exact this
      have q := hc' k hk
      rw [add_add, ho, hu] at q
      exact q
    haveI : Inhabited Po := ⟨noPo⟩
    obtain ⟨y, hy⟩ := choose_lt each
    have hat : ∀ i, i < len → po ((List.range len).map y) i = y i := fun i hi => by
      unfold po; rw [List.getD_eq_getElem?_getD, List.getElem?_map, List.getElem?_range hi]; rfl
    refine ⟨(List.range len).map y, by simp, ⟨some a, cap, by simp, by simpa using hl, fun hp => ?_⟩, fun i => ?_⟩
    · simp at hp
      have h0 := (hy 0 hp).1 0 _ rfl
      obtain ⟨b, o, spot⟩ := a
      have hs : spot = none := by simpa [Addr.add] using World.cell?_spot h0
      subst hs
      have hadd : ∀ i, (⟨b, o, none⟩ : Addr).add i = ⟨b, o + i, none⟩ := fun i => by unfold Addr.add; split <;> simp_all
      refine ⟨b, o, rfl, World.block_lt_of_cell? W ⟨b, o, none⟩ (by simpa [Addr.add] using h0), fun i hi k u hu => ?_⟩
      simp at hi
      rw [hat i hi] at hu
      have := (hy i hi).1 k u hu
      rw [hadd, ← Nat.add_assoc] at this
      exact this
    · by_cases hi : i < len
      · rw [hat i hi]; exact bounds_i64 (hy i hi).2
      · have : po ((List.range len).map y) i = noPo := by
          unfold po; rw [List.getD_eq_getElem?_getD, List.getElem?_eq_none (by simp; omega)]; rfl
        rw [this]; simp [noPo]
end Go.Proofs.Ytkijonnbngnliaa
