/-
  An argument that is a slice of calls on a ring.
-/
import Derived.Test.YtabbfgidgcnddaaRngT
import Derived.Test.YtabbfgidgcnddaaRows2
import Derived.ProofKit
import Derived.OpenShut
namespace Go.Proofs.Ytabbfgidgcnddaa
open Go.RowKit Go.ChangeShapes Go.WideShapes Go.Deep
set_option linter.unusedVariables false

theorem cellsOp : Try.prog.cellsOf 25 = 3 := by kernel_rfl
theorem cellsOpI : Try.prog.cellsOf 3 = 1 := by kernel_rfl
theorem cellsOpB : Try.prog.cellsOf 23 = 1 := by kernel_rfl
theorem cellsOpU : Try.prog.cellsOf 5 = 1 := by kernel_rfl
theorem bytesOpU : Try.prog.bytesOf 5 = 1 := by kernel_rfl
theorem bytesOp : 1 ≤ Try.prog.bytesOf 25 := by rw [show Try.prog.bytesOf 25 = 40 by kernel_rfl]; omega

theorem list3 {α : Type} {l : List α} (h : l.length = 3) : ∃ a b c, l = [a, b, c] := by
  match l, h with
  | [a, b, c], _ => exact ⟨a, b, c, rfl⟩
theorem opOk_blank : OpOk ⟨0, 0, []⟩ := ⟨by simp, by simp, Bytes.of_mem (by simp), by simp⟩

set_option maxHeartbeats 1000000 in
theorem open_ops {H : Type} {enc : TypeId × Value → H} {W : World} {fuel : Nat} {A : Option Addr} {len cap : Nat} {d : DataW H} {p : List MemPlace}
    (hf : DataW.trod enc Try.prog W 0 (fun _ => true) true fuel 22 [.slice A len cap] = some (d, p)) (hw : ∀ n ∈ d.weights Try.prog 22, n ≤ reachBytes) :
    ∃ l : List ROp, OpsAt W (.slice A len cap) l ∧ (∀ i, OpOk (opAt l i)) ∧ l.length ≤ 140737488355328 := by
  rcases open_slice Try.underlying22 hf with ⟨hcs, _⟩ | ⟨a, l, c, m, n, D, Pl, hcs, hb, hl, hm, hmm, hx, hr⟩
  · simp only [List.cons.injEq, Value.slice.injEq, and_true] at hcs
    obtain ⟨rfl, rfl, rfl⟩ := hcs
    exact ⟨[], ⟨none, 0, rfl, Nat.le_refl _, fun h => by simp at h⟩, fun i => by simp only [opAt, List.getD_nil]; exact opOk_blank, by simp⟩
  · simp only [List.cons.injEq, Value.slice.injEq, and_true] at hcs
    obtain ⟨rfl, rfl, rfl⟩ := hcs
    simp only [if_true] at hmm
    have hmm' := hmm.symm
    subst hmm'
    simp only [Prod.mk.injEq] at hx
    obtain ⟨rfl, rfl⟩ := hx
    rw [DataW.weights, Try.underlying22] at hw
    have hlen : len ≤ 140737488355328 := by
      have h := hw _ (List.mem_cons_self ..)
      rw [show Try.prog.bytesOf 25 = 40 by kernel_rfl] at h
      simp only [List.length_map, List.length_range, reachBytes] at h
      omega
    have each : ∀ i, i < len → ∃ y : Int × Int × Option Addr × Nat × List Nat, W.cell? (a.add (i * 3)) = some (.int .i64 y.1) ∧ W.cell? (a.add (i * 3 + 1)) = some (.int .i64 y.2.1) ∧
        W.cell? (a.add (i * 3 + 2)) = some (.slice y.2.2.1 y.2.2.2.2.length y.2.2.2.1) ∧ Row .u8 W (.slice y.2.2.1 y.2.2.2.2.length y.2.2.2.1) y.2.2.2.2 ∧ OpOk ⟨y.1, y.2.1, y.2.2.2.2⟩ := by
      intro i hi
      obtain ⟨cs', h1, h2⟩ := hr i (by omega)
      rw [cellsOp] at h1
      obtain ⟨_, hl', hc'⟩ := World.cells?_some h1
      obtain ⟨c0, c1, c2, rfl⟩ := list3 hl'
      obtain ⟨xs, n', _, hx', _, hlen', hg⟩ := DataW.trod_struct Try.underlying25 h2
      obtain ⟨y0, y1, y2, rfl⟩ := list3 hlen'
      have g0 := hg 0 _ rfl
      have g1 := hg 1 _ rfl
      have g2 := hg 2 _ rfl
      simp only [List.getElem_toArray, List.getElem_cons_zero, List.getElem_cons_succ, cellsOpI, cellsOpB, List.drop_zero, List.drop_succ_cons, List.take_succ_cons, List.take_zero, List.getElem?_cons_zero, List.getElem?_cons_succ] at g0 g1 g2
      obtain ⟨k, e0, r0, w0⟩ := DataW.trod_int Try.underlying3 g0
      obtain ⟨nn, e1, r1, w1⟩ := DataW.trod_int Try.underlying3 g1
      simp only [List.cons.injEq, and_true] at e0 e1
      subst e0 e1 r0 r1
      have q0 := hc' 0 (by omega)
      have q1 := hc' 1 (by omega)
      have q2 := hc' 2 (by omega)
      rw [add_add] at q0 q1 q2
      simp only [List.getElem?_cons_zero, List.getElem?_cons_succ, Nat.add_zero] at q0 q1 q2
      simp only [Prod.mk.injEq] at hx'
      rcases open_ints Try.underlying23 Try.underlying5 cellsOpU g2 with ⟨hcs2, hy⟩ | ⟨a', len', cap', zs, hcs2, hb2, hl2, hm2, hz2, hy, hcell, hwz⟩
      · simp only [List.cons.injEq, and_true] at hcs2
        subst hcs2
        exact ⟨(k, nn, none, 0, []), q0, q1, q2, Row.nil _ _, bounds_i64 w0, bounds_i64 w1, Bytes.of_mem (by simp), by simp⟩
      · simp only [List.cons.injEq, and_true] at hcs2
        subst hcs2
        simp only [if_true] at hz2
        have hR := RowIn.of hl2 hm2 hz2 hcell hwz (fun n h => (bounds_u8 h).1)
        have hll : ((zs.take len').map Int.toNat).length = len' := by simp; omega
        have hreach : cap' ≤ reachBytes := by
          refine hw _ (List.mem_cons_of_mem _ (List.mem_append_left _ (weightsAll_mem (List.mem_map.2 ⟨i, List.mem_range.2 hi, rfl⟩) ?_)))
          rw [hx'.1, DataW.weights, Try.underlying25]
          subst hy
          simp [DataW.weightsEach, DataW.weights, Try.underlying23, bytesOpU, lits]
          omega
        refine ⟨(k, nn, some a', cap', (zs.take len').map Int.toNat), q0, q1, ?_, ?_, bounds_i64 w0, bounds_i64 w1, ?_, ?_⟩
        · show _ = some (Value.slice (some a') ((zs.take len').map Int.toNat).length cap'); rw [hll]; exact q2
        · show Row .u8 W (.slice (some a') ((zs.take len').map Int.toNat).length cap') _; rw [hll]; exact hR.1
        · exact Bytes.of_mem fun x hx => by have := bounds_u8 (hR.2.1 x hx); omega
        · show ((zs.take len').map Int.toNat).length ≤ _; rw [hll]; unfold reachBytes at hreach; omega
    obtain ⟨y, hy⟩ := choose_lt each
    have hat : ∀ i, i < len → opAt ((List.range len).map fun r => (⟨(y r).1, (y r).2.1, (y r).2.2.2.2⟩ : ROp)) i = ⟨(y i).1, (y i).2.1, (y i).2.2.2.2⟩ := fun i hi => by
      unfold opAt; rw [List.getD_eq_getElem?_getD, List.getElem?_map, List.getElem?_range hi]; rfl
    refine ⟨(List.range len).map fun r => ⟨(y r).1, (y r).2.1, (y r).2.2.2.2⟩, ⟨some a, cap, by simp, by simpa using hl, fun hp => ?_⟩, fun i => ?_, by simpa using hlen⟩
    · simp at hp
      have h0 := (hy 0 hp).1
      obtain ⟨b, o, spot⟩ := a
      have hs : spot = none := by simpa [Addr.add] using World.cell?_spot h0
      subst hs
      have hadd : ∀ i, (⟨b, o, none⟩ : Addr).add i = ⟨b, o + i, none⟩ := fun i => by unfold Addr.add; split <;> simp_all
      refine ⟨b, o, rfl, World.block_lt_of_cell? W ⟨b, o, none⟩ (by simpa [Addr.add] using h0), fun i hi => ?_⟩
      simp at hi
      rw [hat i hi]
      obtain ⟨z0, z1, z2, z3, _⟩ := hy i hi
      rw [hadd] at z0 z1 z2
      exact ⟨(y i).2.2.1, (y i).2.2.2.1, z0, by rw [Nat.add_assoc]; exact z1, by rw [Nat.add_assoc]; exact z2, z3⟩
    · by_cases hi : i < len
      · rw [hat i hi]; exact (hy i hi).2.2.2.2
      · have : opAt ((List.range len).map fun r => (⟨(y r).1, (y r).2.1, (y r).2.2.2.2⟩ : ROp)) i = ⟨0, 0, []⟩ := by
          unfold opAt; rw [List.getD_eq_getElem?_getD, List.getElem?_eq_none (by simp; omega)]; rfl
        rw [this]; exact opOk_blank
end Go.Proofs.Ytabbfgidgcnddaa
