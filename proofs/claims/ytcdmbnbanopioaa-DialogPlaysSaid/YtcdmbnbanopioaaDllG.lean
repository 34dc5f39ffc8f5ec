/-
  Arguments that are lists of commands, of things that come.
-/
import Derived.Test.YtcdmbnbanopioaaDllA
import Derived.Test.YtcdmbnbanopioaaRows2
import Derived.ProofKit
import Derived.OpenShut
namespace Go.Proofs.Ytcdmbnbanopioaa
open Go.RowKit Go.ChangeShapes Go.WideShapes Go.Deep
set_option linter.unusedVariables false

/-- What an argument that is a list of commands tells. -/
def CmdsIn (W : World) (A : Option Addr) (len cap : Nat) (cs : List Cmd) : Prop := cs.length = len ∧ CmdsAt (fun b => b < W.heap.size) W (.slice A len cap) cs ∧ cs.length ≤ 140737488355328 ∧ ∀ c ∈ cs, c.wait < 256 ∧ c.cls < 256 ∧ c.id < 256 ∧ Bytes c.b ∧ c.b.length ≤ 140737488355328
/-- And one that is a list of what comes. -/
def OpsIn (W : World) (A : Option Addr) (len cap : Nat) (os : List Opr) : Prop := os.length = len ∧ OpsAt W (.slice A len cap) os ∧ os.length ≤ 140737488355328 ∧ ∀ q ∈ os, q.fk < 256 ∧ Bytes q.fs ∧ q.fs.length ≤ 140737488355328 ∧ (-9223372036854775808 ≤ q.at_ ∧ q.at_ ≤ 9223372036854775807)
theorem cellsU8 : Try.prog.cellsOf 5 = 1 := by kernel_rfl
theorem cellsI : Try.prog.cellsOf 3 = 1 := by kernel_rfl
theorem cellsI64 : Try.prog.cellsOf 2 = 1 := by kernel_rfl
theorem cellsRow : Try.prog.cellsOf 26 = 1 := by kernel_rfl
theorem cellsFr : Try.prog.cellsOf 37 = 2 := by kernel_rfl
theorem cellsCmd : Try.prog.cellsOf 28 = 4 := by kernel_rfl
theorem cellsOpr : Try.prog.cellsOf 39 = 4 := by kernel_rfl
theorem bytesU8 : Try.prog.bytesOf 5 = 1 := by kernel_rfl
theorem list2D {α : Type} {l : List α} (h : l.length = 2) : ∃ a b, l = [a, b] := by
  match l, h with
  | [a, b], _ => exact ⟨a, b, rfl⟩
theorem list3D {α : Type} {l : List α} (h : l.length = 3) : ∃ a b c, l = [a, b, c] := by
  match l, h with
  | [a, b, c], _ => exact ⟨a, b, c, rfl⟩
theorem list4D {α : Type} {l : List α} (h : l.length = 4) : ∃ a b c d, l = [a, b, c, d] := by
  match l, h with
  | [a, b, c, d], _ => exact ⟨a, b, c, d, rfl⟩
set_option maxHeartbeats 1000000 in
theorem open_cmd {H : Type} {enc : TypeId × Value → H} {W : World} {fuel : Nat} {c0 c1 c2 c3 : Value} {d : DataW H} {p : List MemPlace}
    (hf : DataW.trod enc Try.prog W 0 (fun _ => true) true fuel 28 [c0, c1, c2, c3] = some (d, p)) (hw : ∀ n ∈ d.weights Try.prog 28, n ≤ reachBytes) :
    ∃ (k1 k2 k3 : Nat) (A : Option Addr) (c : Nat) (ns : List Nat), c0 = .slice A ns.length c ∧ c1 = .int .u8 (k1 : Nat) ∧ c2 = .int .u8 (k2 : Nat) ∧ c3 = .int .u8 (k3 : Nat) ∧ Row .u8 W (.slice A ns.length c) ns ∧ Bytes ns ∧ k1 < 256 ∧ k2 < 256 ∧ k3 < 256 ∧ ns.length ≤ 140737488355328 := by
  obtain ⟨xs, n', _, hx', _, hlen', hg⟩ := DataW.trod_struct Try.underlying28 hf
  obtain ⟨y0, y1, y2, y3, rfl⟩ := list4D hlen'
  have g0 := hg 0 _ rfl
  have g1 := hg 1 _ rfl
  have g2 := hg 2 _ rfl
  have g3 := hg 3 _ rfl
  simp only [List.getElem_toArray, List.getElem_cons_zero, List.getElem_cons_succ, cellsU8, cellsRow, List.drop_zero, List.drop_succ_cons, List.take_succ_cons, List.take_zero, List.getElem?_cons_zero, List.getElem?_cons_succ] at g0 g1 g2 g3
  obtain ⟨k1, e1, r1, w1⟩ := DataW.trod_int Try.underlying5 g1
  obtain ⟨k2, e2, r2, w2⟩ := DataW.trod_int Try.underlying5 g2
  obtain ⟨k3, e3, r3, w3⟩ := DataW.trod_int Try.underlying5 g3
  simp only [List.cons.injEq, and_true] at e1 e2 e3
  subst e1 e2 e3 r1 r2 r3
  simp only [Prod.mk.injEq] at hx'
  have hk1 := bounds_u8 w1
  have hk2 := bounds_u8 w2
  have hk3 := bounds_u8 w3
  obtain ⟨kn1, rfl⟩ : ∃ kn : Nat, k1 = kn := ⟨k1.toNat, by omega⟩
  obtain ⟨kn2, rfl⟩ : ∃ kn : Nat, k2 = kn := ⟨k2.toNat, by omega⟩
  obtain ⟨kn3, rfl⟩ : ∃ kn : Nat, k3 = kn := ⟨k3.toNat, by omega⟩
  rcases open_ints Try.underlying26 Try.underlying5 cellsU8 g0 with ⟨hcs2, hy⟩ | ⟨a', len', cap', zs, hcs2, hb2, hl2, hm2, hz2, hy, hcell, hwz⟩
  · simp only [List.cons.injEq, and_true] at hcs2
    subst hcs2
    exact ⟨kn1, kn2, kn3, none, 0, [], rfl, rfl, rfl, rfl, Row.nil _ _, Bytes.of_mem (by simp), by omega, by omega, by omega, by simp⟩
  · simp only [List.cons.injEq, and_true] at hcs2
    subst hcs2
    simp only [if_true] at hz2
    have hR := RowIn.of hl2 hm2 hz2 hcell hwz (fun n h => (bounds_u8 h).1)
    have hll : ((zs.take len').map Int.toNat).length = len' := by simp; omega
    have hreach : cap' ≤ reachBytes := by
      refine hw _ ?_
      rw [hx'.1, DataW.weights, Try.underlying28]
      subst hy
      simp [DataW.weightsEach, DataW.weights, Try.underlying26, bytesU8, lits]
      omega
    refine ⟨kn1, kn2, kn3, some a', cap', (zs.take len').map Int.toNat, ?_, rfl, rfl, rfl, ?_, ?_, by omega, by omega, by omega, ?_⟩
    · rw [hll]
    · rw [hll]; exact hR.1
    · exact Bytes.of_mem fun x hx => by have := bounds_u8 (hR.2.1 x hx); omega
    · rw [hll]; unfold reachBytes at hreach; omega
set_option maxRecDepth 100000 in
set_option maxHeartbeats 1000000 in
theorem open_cmds {H : Type} {enc : TypeId × Value → H} {W : World} {fuel : Nat} {A : Option Addr} {len cap : Nat} {d : DataW H} {p : List MemPlace}
    (hf : DataW.trod enc Try.prog W 0 (fun _ => true) true fuel 22 [.slice A len cap] = some (d, p)) (hw : ∀ n ∈ d.weights Try.prog 22, n ≤ reachBytes) :
    ∃ cs, CmdsIn W A len cap cs := by
  rcases open_slice Try.underlying22 hf with ⟨hcs, _⟩ | ⟨a, l, c, m, n, D, Pl, hcs, hb, hl, hm, hmm, hx, hr⟩
  · simp only [List.cons.injEq, Value.slice.injEq, and_true] at hcs
    obtain ⟨rfl, rfl, rfl⟩ := hcs
    exact ⟨[], rfl, ⟨none, 0, rfl, Nat.le_refl _, fun h => by simp at h⟩, by simp, fun c hc => by simp at hc⟩
  · simp only [List.cons.injEq, Value.slice.injEq, and_true] at hcs
    obtain ⟨rfl, rfl, rfl⟩ := hcs
    simp only [if_true] at hmm
    have hmm' := hmm.symm
    subst hmm'
    simp only [Prod.mk.injEq] at hx
    obtain ⟨rfl, rfl⟩ := hx
    rw [DataW.weights, Try.underlying22] at hw
    have hlen : len ≤ 140737488355328 := by
      have h := hw _ (List.mem_cons_self ..)
      rw [show Try.prog.bytesOf 28 = 32 by kernel_rfl] at h
      simp only [List.length_map, List.length_range, reachBytes] at h
      omega
    have each : ∀ i, i < len → ∃ y : Cmd × Value, W.cell? (a.add (i * 4)) = some y.2 ∧ W.cell? (a.add (i * 4 + 1)) = some (.int .u8 (y.1.wait : Nat)) ∧ W.cell? (a.add (i * 4 + 2)) = some (.int .u8 (y.1.cls : Nat)) ∧ W.cell? (a.add (i * 4 + 3)) = some (.int .u8 (y.1.id : Nat)) ∧ Row .u8 W y.2 y.1.b ∧ Bytes y.1.b ∧ y.1.wait < 256 ∧ y.1.cls < 256 ∧ y.1.id < 256 ∧ y.1.b.length ≤ 140737488355328 := by
      intro i hi
      obtain ⟨cs', h1, h2⟩ := hr i (by omega)
      rw [cellsCmd] at h1
      obtain ⟨_, hl', hc'⟩ := World.cells?_some h1
      obtain ⟨c0, c1, c2, c3, rfl⟩ := list4D hl'
      obtain ⟨k1, k2, k3, A', c', ns, rfl, rfl, rfl, rfl, hR, hB, b1, b2, b3, hn⟩ := open_cmd h2 (fun n hn => hw _ (List.mem_cons_of_mem _ (List.mem_append_left _ (weightsAll_mem (List.mem_map.2 ⟨i, List.mem_range.2 hi, rfl⟩) hn))))
      have q0 := hc' 0 (by omega)
      have q1 := hc' 1 (by omega)
      have q2 := hc' 2 (by omega)
      have q3 := hc' 3 (by omega)
      rw [add_add] at q0 q1 q2 q3
      simp only [List.getElem?_cons_zero, List.getElem?_cons_succ, Nat.add_zero] at q0 q1 q2 q3
      exact ⟨(⟨ns, k1, k2, k3⟩, .slice A' ns.length c'), q0, q1, q2, q3, hR, hB, b1, b2, b3, hn⟩
    haveI : Inhabited (Cmd × Value) := ⟨(⟨[], 0, 0, 0⟩, .int .u8 0)⟩
    obtain ⟨y, hy⟩ := choose_lt each
    refine ⟨(List.range len).map fun r => (y r).1, by simp, ⟨some a, cap, by simp, by simpa using hl, fun hp => ?_⟩, by simpa using hlen, fun c hc => ?_⟩
    · simp at hp
      have h0 := (hy 0 hp).1
      obtain ⟨b, o, spot⟩ := a
      have hs : spot = none := by simpa [Addr.add] using World.cell?_spot h0
      subst hs
      have hadd : ∀ i, (⟨b, o, none⟩ : Addr).add i = ⟨b, o + i, none⟩ := fun i => by unfold Addr.add; split <;> simp_all
      refine ⟨b, o, rfl, fun i q hi => ?_⟩
      have hil : i < len := by have := (List.getElem?_eq_some_iff.1 hi).1; simpa using this
      rw [List.getElem?_map, List.getElem?_range hil] at hi
      cases hi
      obtain ⟨z0, z1, z2, z3, z4, z5, z6, z7, z8, z9⟩ := hy i hil
      rw [hadd] at z0 z1 z2 z3
      refine ⟨(y i).2, ⟨World.block_lt_of_cell? W ⟨b, o, none⟩ (by simpa [Addr.add] using h0), z0, by rw [Nat.add_assoc]; exact z1, by rw [Nat.add_assoc]; exact z2, by rw [Nat.add_assoc]; exact z3, z4, z6, z7, z8⟩, fun hpos b' hb' => ?_⟩
      obtain ⟨A9, c9, e9, _, h9⟩ := z4
      obtain ⟨b9, o9, rfl, hlt9, _⟩ := h9 hpos
      rw [e9] at hb'
      simp [Value.ownBlock] at hb'
      subst hb'
      exact hlt9
    · obtain ⟨r, hr1, rfl⟩ := List.mem_map.1 hc
      have := hy r (List.mem_range.1 hr1)
      exact ⟨this.2.2.2.2.2.2.1, this.2.2.2.2.2.2.2.1, this.2.2.2.2.2.2.2.2.1, this.2.2.2.2.2.1, this.2.2.2.2.2.2.2.2.2⟩
set_option maxHeartbeats 1000000 in
theorem open_frameD {H : Type} {enc : TypeId × Value → H} {W : World} {fuel : Nat} {c0 c1 : Value} {d : DataW H} {p : List MemPlace}
    (hf : DataW.trod enc Try.prog W 0 (fun _ => true) true fuel 37 [c0, c1] = some (d, p)) (hw : ∀ n ∈ d.weights Try.prog 37, n ≤ reachBytes) :
    ∃ (k : Nat) (A : Option Addr) (c : Nat) (ns : List Nat), c0 = .int .u8 (k : Nat) ∧ c1 = .slice A ns.length c ∧ Row .u8 W (.slice A ns.length c) ns ∧ Bytes ns ∧ k < 256 ∧ ns.length ≤ 140737488355328 := by
  obtain ⟨xs, n', _, hx', _, hlen', hg⟩ := DataW.trod_struct Try.underlying37 hf
  obtain ⟨y0, y1, rfl⟩ := list2D hlen'
  have g0 := hg 0 _ rfl
  have g1 := hg 1 _ rfl
  simp only [List.getElem_toArray, List.getElem_cons_zero, List.getElem_cons_succ, cellsU8, cellsRow, List.drop_zero, List.drop_succ_cons, List.take_succ_cons, List.take_zero, List.getElem?_cons_zero, List.getElem?_cons_succ] at g0 g1
  obtain ⟨k, e0, r0, w0⟩ := DataW.trod_int Try.underlying5 g0
  simp only [List.cons.injEq, and_true] at e0
  subst e0 r0
  simp only [Prod.mk.injEq] at hx'
  have hk := bounds_u8 w0
  obtain ⟨kn, rfl⟩ : ∃ kn : Nat, k = kn := ⟨k.toNat, by omega⟩
  rcases open_ints Try.underlying26 Try.underlying5 cellsU8 g1 with ⟨hcs2, hy⟩ | ⟨a', len', cap', zs, hcs2, hb2, hl2, hm2, hz2, hy, hcell, hwz⟩
  · simp only [List.cons.injEq, and_true] at hcs2
    subst hcs2
    exact ⟨kn, none, 0, [], rfl, rfl, Row.nil _ _, Bytes.of_mem (by simp), by omega, by simp⟩
  · simp only [List.cons.injEq, and_true] at hcs2
    subst hcs2
    simp only [if_true] at hz2
    have hR := RowIn.of hl2 hm2 hz2 hcell hwz (fun n h => (bounds_u8 h).1)
    have hll : ((zs.take len').map Int.toNat).length = len' := by simp; omega
    have hreach : cap' ≤ reachBytes := by
      refine hw _ ?_
      rw [hx'.1, DataW.weights, Try.underlying37]
      subst hy
      simp [DataW.weightsEach, DataW.weights, Try.underlying26, bytesU8, lits]
      omega
    refine ⟨kn, some a', cap', (zs.take len').map Int.toNat, rfl, ?_, ?_, ?_, by omega, ?_⟩
    · rw [hll]
    · rw [hll]; exact hR.1
    · exact Bytes.of_mem fun x hx => by have := bounds_u8 (hR.2.1 x hx); omega
    · rw [hll]; unfold reachBytes at hreach; omega
set_option maxHeartbeats 1000000 in
theorem open_op {H : Type} {enc : TypeId × Value → H} {W : World} {fuel : Nat} {c0 c1 c2 c3 : Value} {d : DataW H} {p : List MemPlace}
    (hf : DataW.trod enc Try.prog W 0 (fun _ => true) true fuel 39 [c0, c1, c2, c3] = some (d, p)) (hw : ∀ n ∈ d.weights Try.prog 39, n ≤ reachBytes) :
    ∃ (k1 k2 : Int) (k : Nat) (A : Option Addr) (c : Nat) (ns : List Nat), c0 = .int .i64 k1 ∧ c1 = .int .i64 k2 ∧ c2 = .int .u8 (k : Nat) ∧ c3 = .slice A ns.length c ∧ Row .u8 W (.slice A ns.length c) ns ∧ Bytes ns ∧ k < 256 ∧ ns.length ≤ 140737488355328 ∧ -9223372036854775808 ≤ k2 ∧ k2 ≤ 9223372036854775807 := by
  obtain ⟨xs, n', _, hx', _, hlen', hg⟩ := DataW.trod_struct Try.underlying39 hf
  obtain ⟨y0, y1, y2, rfl⟩ := list3D hlen'
  have g0 := hg 0 _ rfl
  have g1 := hg 1 _ rfl
  have g2 := hg 2 _ rfl
  simp only [List.getElem_toArray, List.getElem_cons_zero, List.getElem_cons_succ, cellsI, cellsI64, cellsFr, List.drop_zero, List.drop_succ_cons, List.take_succ_cons, List.take_zero, List.getElem?_cons_zero, List.getElem?_cons_succ] at g0 g1 g2
  obtain ⟨k1, e1, r1, w1⟩ := DataW.trod_int Try.underlying3 g0
  obtain ⟨k2, e2, r2, w2⟩ := DataW.trod_int Try.underlying2 g1
  simp only [List.cons.injEq, and_true] at e1 e2
  subst e1 e2 r1 r2
  simp only [Prod.mk.injEq] at hx'
  obtain ⟨k, A, c, ns, rfl, rfl, hR, hB, hk, hn⟩ := open_frameD g2 (fun n hn => hw _ (by
    rw [hx'.1, DataW.weights, Try.underlying39]
    simp [DataW.weightsEach]
    exact Or.inr (Or.inr hn)))
  have b2 := bounds_i64 w2
  exact ⟨k1, k2, k, A, c, ns, rfl, rfl, rfl, rfl, hR, hB, hk, hn, b2.1, b2.2⟩
set_option maxRecDepth 100000 in
set_option maxHeartbeats 1000000 in
theorem open_ops {H : Type} {enc : TypeId × Value → H} {W : World} {fuel : Nat} {A : Option Addr} {len cap : Nat} {d : DataW H} {p : List MemPlace}
    (hf : DataW.trod enc Try.prog W 0 (fun _ => true) true fuel 23 [.slice A len cap] = some (d, p)) (hw : ∀ n ∈ d.weights Try.prog 23, n ≤ reachBytes) :
    ∃ os, OpsIn W A len cap os := by
  rcases open_slice Try.underlying23 hf with ⟨hcs, _⟩ | ⟨a, l, c, m, n, D, Pl, hcs, hb, hl, hm, hmm, hx, hr⟩
  · simp only [List.cons.injEq, Value.slice.injEq, and_true] at hcs
    obtain ⟨rfl, rfl, rfl⟩ := hcs
    exact ⟨[], rfl, ⟨none, 0, rfl, Nat.le_refl _, fun h => by simp at h⟩, by simp, fun c hc => by simp at hc⟩
  · simp only [List.cons.injEq, Value.slice.injEq, and_true] at hcs
    obtain ⟨rfl, rfl, rfl⟩ := hcs
    simp only [if_true] at hmm
    have hmm' := hmm.symm
    subst hmm'
    simp only [Prod.mk.injEq] at hx
    obtain ⟨rfl, rfl⟩ := hx
    rw [DataW.weights, Try.underlying23] at hw
    have hlen : len ≤ 140737488355328 := by
      have h := hw _ (List.mem_cons_self ..)
      rw [show Try.prog.bytesOf 39 = 48 by kernel_rfl] at h
      simp only [List.length_map, List.length_range, reachBytes] at h
      omega
    have each : ∀ i, i < len → ∃ y : Opr × Value, W.cell? (a.add (i * 4)) = some (.int .i64 y.1.kind) ∧ W.cell? (a.add (i * 4 + 1)) = some (.int .i64 y.1.at_) ∧ W.cell? (a.add (i * 4 + 2)) = some (.int .u8 (y.1.fk : Nat)) ∧ W.cell? (a.add (i * 4 + 3)) = some y.2 ∧ Row .u8 W y.2 y.1.fs ∧ Bytes y.1.fs ∧ y.1.fk < 256 ∧ y.1.fs.length ≤ 140737488355328 ∧ -9223372036854775808 ≤ y.1.at_ ∧ y.1.at_ ≤ 9223372036854775807 := by
      intro i hi
      obtain ⟨cs', h1, h2⟩ := hr i (by omega)
      rw [cellsOpr] at h1
      obtain ⟨_, hl', hc'⟩ := World.cells?_some h1
      obtain ⟨c0, c1, c2, c3, rfl⟩ := list4D hl'
      obtain ⟨k1, k2, k, A', c', ns, rfl, rfl, rfl, rfl, hR, hB, b1, hn, b2, b3⟩ := open_op h2 (fun n hn => hw _ (List.mem_cons_of_mem _ (List.mem_append_left _ (weightsAll_mem (List.mem_map.2 ⟨i, List.mem_range.2 hi, rfl⟩) hn))))
      have q0 := hc' 0 (by omega)
      have q1 := hc' 1 (by omega)
      have q2 := hc' 2 (by omega)
      have q3 := hc' 3 (by omega)
      rw [add_add] at q0 q1 q2 q3
      simp only [List.getElem?_cons_zero, List.getElem?_cons_succ, Nat.add_zero] at q0 q1 q2 q3
      exact ⟨(⟨k1, k2, k, ns⟩, .slice A' ns.length c'), q0, q1, q2, q3, hR, hB, b1, hn, b2, b3⟩
    haveI : Inhabited (Opr × Value) := ⟨(⟨0, 0, 0, []⟩, .int .u8 0)⟩
    obtain ⟨y, hy⟩ := choose_lt each
    refine ⟨(List.range len).map fun r => (y r).1, by simp, ⟨some a, cap, by simp, by simpa using hl, fun hp => ?_⟩, by simpa using hlen, fun c hc => ?_⟩
    · simp at hp
      have h0 := (hy 0 hp).1
      obtain ⟨b, o, spot⟩ := a
      have hs : spot = none := by simpa [Addr.add] using World.cell?_spot h0
      subst hs
      have hadd : ∀ i, (⟨b, o, none⟩ : Addr).add i = ⟨b, o + i, none⟩ := fun i => by unfold Addr.add; split <;> simp_all
      refine ⟨b, o, rfl, fun i q hi => ?_⟩
      have hil : i < len := by have := (List.getElem?_eq_some_iff.1 hi).1; simpa using this
      rw [List.getElem?_map, List.getElem?_range hil] at hi
      cases hi
      obtain ⟨z0, z1, z2, z3, z4, _⟩ := hy i hil
      rw [hadd] at z0 z1 z2 z3
      exact ⟨(y i).2, ⟨World.block_lt_of_cell? W ⟨b, o, none⟩ (by simpa [Addr.add] using h0), z0, by rw [Nat.add_assoc]; exact z1, by rw [Nat.add_assoc]; exact z2, by rw [Nat.add_assoc]; exact z3, z4⟩⟩
    · obtain ⟨r, hr1, rfl⟩ := List.mem_map.1 hc
      have := hy r (List.mem_range.1 hr1)
      exact ⟨this.2.2.2.2.2.2.1, this.2.2.2.2.2.1, this.2.2.2.2.2.2.2.1, this.2.2.2.2.2.2.2.2.1, this.2.2.2.2.2.2.2.2.2⟩

end Go.Proofs.Ytcdmbnbanopioaa
