/-
  Arguments that are a frame, or a slice of frames.
-/
import Derived.Test.YtkoklmecijejkaaFrmV
import Derived.Test.YtkoklmecijejkaaRows2
import Derived.ProofKit
import Derived.OpenShut
namespace Go.Proofs.Ytkoklmecijejkaa
open Go.RowKit Go.ChangeShapes Go.WideShapes Go.Deep
set_option linter.unusedVariables false

theorem cellsFrame : Try.prog.cellsOf 34 = 2 := by kernel_rfl
theorem cellsFrameB : Try.prog.cellsOf 23 = 1 := by kernel_rfl
theorem cellsFrameU : Try.prog.cellsOf 5 = 1 := by kernel_rfl
theorem bytesFrameU : Try.prog.bytesOf 5 = 1 := by kernel_rfl

theorem list2 {α : Type} {l : List α} (h : l.length = 2) : ∃ a b, l = [a, b] := by
  match l, h with
  | [a, b], _ => exact ⟨a, b, rfl⟩

theorem arr2 {cs : Array Value} (h : cs.size = 2) : ∃ x y, cs = #[x, y] := by
  obtain ⟨l⟩ := cs
  obtain ⟨a, b, rfl⟩ := list2 (l := l) h
  exact ⟨a, b, rfl⟩

set_option maxHeartbeats 1000000 in
theorem open_frame {H : Type} {enc : TypeId × Value → H} {W : World} {fuel : Nat} {c0 c1 : Value} {d : DataW H} {p : List MemPlace}
    (hf : DataW.trod enc Try.prog W 0 (fun _ => true) true fuel 34 [c0, c1] = some (d, p)) (hw : ∀ n ∈ d.weights Try.prog 34, n ≤ reachBytes) :
    ∃ (k : Nat) (A : Option Addr) (c : Nat) (ns : List Nat), c0 = .int .u8 (k : Nat) ∧ c1 = .slice A ns.length c ∧ Row .u8 W (.slice A ns.length c) ns ∧ Bytes ns ∧ k < 256 ∧ ns.length ≤ 140737488355328 := by
  obtain ⟨xs, n', _, hx', _, hlen', hg⟩ := DataW.trod_struct Try.underlying34 hf
  obtain ⟨y0, y1, rfl⟩ := list2 hlen'
  have g0 := hg 0 _ rfl
  have g1 := hg 1 _ rfl
  simp only [List.getElem_toArray, List.getElem_cons_zero, List.getElem_cons_succ, cellsFrameU, cellsFrameB, List.drop_zero, List.drop_succ_cons, List.take_succ_cons, List.take_zero, List.getElem?_cons_zero, List.getElem?_cons_succ] at g0 g1
  obtain ⟨k, e0, r0, w0⟩ := DataW.trod_int Try.underlying5 g0
  simp only [List.cons.injEq, and_true] at e0
  subst e0 r0
  simp only [Prod.mk.injEq] at hx'
  have hk := bounds_u8 w0
  obtain ⟨kn, rfl⟩ : ∃ kn : Nat, k = kn := ⟨k.toNat, by omega⟩
  rcases open_ints Try.underlying23 Try.underlying5 cellsFrameU g1 with ⟨hcs2, hy⟩ | ⟨a', len', cap', zs, hcs2, hb2, hl2, hm2, hz2, hy, hcell, hwz⟩
  · simp only [List.cons.injEq, and_true] at hcs2
    subst hcs2
    exact ⟨kn, none, 0, [], rfl, rfl, Row.nil _ _, Bytes.of_mem (by simp), by omega, by simp⟩
  · simp only [List.cons.injEq, and_true] at hcs2
    subst hcs2
    simp only [if_true] at hz2
    have hR := RowIn.of hl2 hm2 hz2 hcell hwz (fun n h => (bounds_u8 h).1)
    have hll : ((zs.take len').map Int.toNat).length = len' := by simp; omega
    have hreach : cap' ≤ reachBytes := by
      refine hw _ ?_
      rw [hx'.1, DataW.weights, Try.underlying34]
      subst hy
      simp [DataW.weightsEach, DataW.weights, Try.underlying23, bytesFrameU, lits]
      omega
    refine ⟨kn, some a', cap', (zs.take len').map Int.toNat, rfl, ?_, ?_, ?_, by omega, ?_⟩
    · rw [hll]
    · rw [hll]; exact hR.1
    · exact Bytes.of_mem fun x hx => by have := bounds_u8 (hR.2.1 x hx); omega
    · rw [hll]; unfold reachBytes at hreach; omega

set_option maxRecDepth 100000 in
set_option maxHeartbeats 1000000 in
theorem open_frames {H : Type} {enc : TypeId × Value → H} {W : World} {fuel : Nat} {A : Option Addr} {len cap : Nat} {d : DataW H} {p : List MemPlace}
    (hf : DataW.trod enc Try.prog W 0 (fun _ => true) true fuel 39 [.slice A len cap] = some (d, p)) (hw : ∀ n ∈ d.weights Try.prog 39, n ≤ reachBytes) :
    ∃ fs : List (Nat × List Nat), FramesAt W (.slice A len cap) fs ∧ (∀ i, Bytes (fr fs i).2) ∧ fs.length ≤ 140737488355328 ∧ ∀ i, (fr fs i).2.length ≤ 140737488355328 := by
  rcases open_slice Try.underlying39 hf with ⟨hcs, _⟩ | ⟨a, l, c, m, n, D, Pl, hcs, hb, hl, hm, hmm, hx, hr⟩
  · simp only [List.cons.injEq, Value.slice.injEq, and_true] at hcs
    obtain ⟨rfl, rfl, rfl⟩ := hcs
    exact ⟨[], ⟨none, 0, rfl, Nat.le_refl _, fun h => by simp at h⟩, fun i => by simp only [fr, List.getD_nil]; exact Bytes.of_mem (by simp), by simp, fun i => by simp [fr]⟩
  · simp only [List.cons.injEq, Value.slice.injEq, and_true] at hcs
    obtain ⟨rfl, rfl, rfl⟩ := hcs
    simp only [if_true] at hmm
    have hmm' := hmm.symm
    subst hmm'
    simp only [Prod.mk.injEq] at hx
    obtain ⟨rfl, rfl⟩ := hx
    rw [DataW.weights, Try.underlying39] at hw
    have hlen : len ≤ 140737488355328 := by
      have h := hw _ (List.mem_cons_self ..)
      rw [show Try.prog.bytesOf 34 = 32 by kernel_rfl] at h
      simp only [List.length_map, List.length_range, reachBytes] at h
      omega
    have each : ∀ i, i < len → ∃ y : Nat × Value × List Nat, W.cell? (a.add (i * 2)) = some (.int .u8 (y.1 : Nat)) ∧ W.cell? (a.add (i * 2 + 1)) = some y.2.1 ∧ Row .u8 W y.2.1 y.2.2 ∧ Bytes y.2.2 ∧ y.1 < 256 ∧ y.2.2.length ≤ 140737488355328 := by
      intro i hi
      obtain ⟨cs', h1, h2⟩ := hr i (by omega)
      rw [cellsFrame] at h1
      obtain ⟨_, hl', hc'⟩ := World.cells?_some h1
      obtain ⟨c0, c1, rfl⟩ := list2 hl'
      obtain ⟨k, A', c', ns, rfl, rfl, hR, hB, hk, hn⟩ := open_frame h2 (fun n hn => hw _ (List.mem_cons_of_mem _ (List.mem_append_left _ (weightsAll_mem (List.mem_map.2 ⟨i, List.mem_range.2 hi, rfl⟩) hn))))
      have q0 := hc' 0 (by omega)
      have q1 := hc' 1 (by omega)
      rw [add_add] at q0 q1
      simp only [List.getElem?_cons_zero, List.getElem?_cons_succ, Nat.add_zero] at q0 q1
      exact ⟨(k, .slice A' ns.length c', ns), q0, q1, hR, hB, hk, hn⟩
    obtain ⟨y, hy⟩ := choose_lt each
    have hat : ∀ i, i < len → fr ((List.range len).map fun r => ((y r).1, (y r).2.2)) i = ((y i).1, (y i).2.2) := fun i hi => by
      unfold fr; rw [List.getD_eq_getElem?_getD, List.getElem?_map, List.getElem?_range hi]; rfl
    have hno : ∀ i, ¬ i < len → fr ((List.range len).map fun r => ((y r).1, (y r).2.2)) i = (0, []) := fun i hi => by
      unfold fr; rw [List.getD_eq_getElem?_getD, List.getElem?_eq_none (by simp; omega)]; rfl
    refine ⟨(List.range len).map fun r => ((y r).1, (y r).2.2), ⟨some a, cap, by simp, by simpa using hl, fun hp => ?_⟩, fun i => ?_, by simpa using hlen, fun i => ?_⟩
    · simp at hp
      have h0 := (hy 0 hp).1
      obtain ⟨b, o, spot⟩ := a
      have hs : spot = none := by simpa [Addr.add] using World.cell?_spot h0
      subst hs
      have hadd : ∀ i, (⟨b, o, none⟩ : Addr).add i = ⟨b, o + i, none⟩ := fun i => by unfold Addr.add; split <;> simp_all
      refine ⟨b, o, rfl, fun i hi => ?_⟩
      simp at hi
      rw [hat i hi]
      obtain ⟨z0, z1, z2, z3, z4, z5⟩ := hy i hi
      rw [hadd] at z0 z1
      exact ⟨(y i).2.1, World.block_lt_of_cell? W ⟨b, o, none⟩ (by simpa [Addr.add] using h0), z0, by rw [Nat.add_assoc]; exact z1, z2, z4⟩
    · by_cases hi : i < len
      · rw [hat i hi]; exact (hy i hi).2.2.2.1
      · rw [hno i hi]; exact Bytes.of_mem (by simp)
    · by_cases hi : i < len
      · rw [hat i hi]; exact (hy i hi).2.2.2.2.2
      · rw [hno i hi]; simp
end Go.Proofs.Ytkoklmecijejkaa
