/-
  The program's log of edges: how many are within bounds; a copy; a new one.
-/
import Derived.Test.YtkijonnbngnliaaEdgC
namespace Go.Proofs.Ytkijonnbngnliaa
open Go.RowKit
set_option linter.unusedVariables false

-- [COUNT
set_option maxRecDepth 100000 in
theorem edge_Count (w : World) (g o : Nat) (ks : Nat → Int) (f n : Nat) (a b : Int) (h : LogAt w g o ks f n) :
    Calls Try.prog 28 #[.pointer (some ⟨g, o, none⟩), .int .i64 a, .int .i64 b] w fun e w' => e = .returned (.int .i64 (cntE (logL ks f n) a b n : Nat)) ∧ Grew w w' := by
  have HH := Lib.hid h
  have lt := h.lt
  obtain ⟨N, HN⟩ : ∃ N, Hid (cntE (logL ks f n) a b n = N) := ⟨_, Lib.hid rfl⟩
  rw [HN.out]
  have g1 := (Grew.refl w).alloc (.cells #[.int .i64 a] 2)
  obtain ⟨V1, hV1⟩ : ∃ V, w.alloc (.cells #[.int .i64 a] 2) = V := ⟨_, rfl⟩
  obtain ⟨V2, hV2⟩ : ∃ V, V1.alloc (.cells #[.int .i64 b] 2) = V := ⟨_, rfl⟩
  obtain ⟨V3, hV3⟩ : ∃ V, V2.alloc (.cells #[.int .i64 0] 3) = V := ⟨_, rfl⟩
  have g2 : Grew V1 V2 := by rw [← hV2]; exact (Grew.refl V1).alloc _
  have g3 : Grew V2 V3 := by rw [← hV3]; exact (Grew.refl V2).alloc _
  rw [hV1] at g1
  have s1 : V1.heap.size = w.heap.size + 1 := by rw [← hV1]; simp
  have s2 : V2.heap.size = w.heap.size + 2 := by rw [← hV2]; simp [s1]
  have s3 : V3.heap.size = w.heap.size + 3 := by rw [← hV3]; simp [s2]
  have a1 : V1.cell? ⟨w.heap.size, 0, none⟩ = some (.int .i64 a) := by rw [← hV1]; simp [go_sem]
  have b2 : V2.cell? ⟨w.heap.size + 1, 0, none⟩ = some (.int .i64 b) := by rw [← hV2, ← s1]; simp [go_sem]
  have n3 : V3.cell? ⟨w.heap.size + 1 + 1, 0, none⟩ = some (.int .i64 0) := by rw [← hV3, show w.heap.size + 1 + 1 = V2.heap.size from s2.symm]; simp [go_sem]
  have f3 : V3.frozen? ⟨w.heap.size + 1 + 1, 0, none⟩ = false := by rw [← hV3, show w.heap.size + 1 + 1 = V2.heap.size from s2.symm]; simp [go_sem]
  have M0 : CntM g o ks f n a b w w.heap.size (w.heap.size + 1) (w.heap.size + 1 + 1) 0 V3 :=
    ⟨h.grew (g1.trans (g2.trans g3)), ((g2.trans g3).cell (p := ⟨w.heap.size, 0, none⟩) (by simp only; omega)).trans a1, (g3.cell (p := ⟨w.heap.size + 1, 0, none⟩) (by simp only; omega)).trans b2, n3, f3, ⟨by omega, by omega, by omega⟩, g1.trans (g2.trans g3)⟩
  have HE := Lib.hid (edge_each 33 #[.pointer (some ⟨w.heap.size, 0, none⟩), .pointer (some ⟨w.heap.size + 1, 0, none⟩), .pointer (some ⟨w.heap.size + 1 + 1, 0, none⟩)] (CntM g o ks f n a b w w.heap.size (w.heap.size + 1) (w.heap.size + 1 + 1)) V3 g o ks f n (fun _ _ => rfl) M0 (fun i w' q => q.log)
    (fun i w' w'' q k => by
      obtain ⟨q1, q2, q3, q4, q5, ⟨q6, q7, q8⟩, q9⟩ := q
      exact ⟨q1.grew k, (k.cell (p := ⟨w.heap.size, 0, none⟩) (by simp only; omega)).trans q2, (k.cell (p := ⟨w.heap.size + 1, 0, none⟩) (by simp only; omega)).trans q3, (k.cell (p := ⟨w.heap.size + 1 + 1, 0, none⟩) q8).trans q4, (k.frozen (p := ⟨w.heap.size + 1 + 1, 0, none⟩) q8).trans q5, ⟨q6, q7, Nat.lt_of_lt_of_le q8 k.size⟩, q9.trans k⟩)
    (fun i w' hi q => edge_Count1 g o ks f n a b w w.heap.size (w.heap.size + 1) (w.heap.size + 1 + 1) i (by omega) (by omega) hi w' q))
  have HV1 := Lib.hid hV1
  have HV2 := Lib.hid hV2
  have HV3 := Lib.hid hV3
  have S1 := Lib.hid s1
  have S2 := Lib.hid s2
  clear hV1 hV2 hV3 s1 s2 s3 M0 g1 g2 g3 a1 b2 n3 f3 h
  go_enter Try.func28, Try.ntmps28
  go_upto_region 2 with fail
  rw [HV1.out, HV2.out, HV3.out]
  clear HV1 HV2 HV3
  go_upto_region 3 with (go_at_call 32; refine HE.out.mono ?_; rintro e w2 ⟨rfl, h2⟩; have c0 := h2.cn; have l2 := h2.lt.2.2; have H2 := Lib.hid h2.gr)
  rw [HN.out] at c0
  clear h2 HE
  go_wp2_with fail
  go_ret
  exact ⟨rfl, H2.out⟩
theorem edge_Count_none (w : World) (a b : Int) :
    Calls Try.prog 28 #[.pointer none, .int .i64 a, .int .i64 b] w fun e w' => e = .returned (.int .i64 0) ∧ Grew w w' := by
  have g1 := (Grew.refl w).alloc (.cells #[.int .i64 a] 2)
  obtain ⟨V1, hV1⟩ : ∃ V, w.alloc (.cells #[.int .i64 a] 2) = V := ⟨_, rfl⟩
  obtain ⟨V2, hV2⟩ : ∃ V, V1.alloc (.cells #[.int .i64 b] 2) = V := ⟨_, rfl⟩
  obtain ⟨V3, hV3⟩ : ∃ V, V2.alloc (.cells #[.int .i64 0] 3) = V := ⟨_, rfl⟩
  have g2 : Grew V1 V2 := by rw [← hV2]; exact (Grew.refl V1).alloc _
  have g3 : Grew V2 V3 := by rw [← hV3]; exact (Grew.refl V2).alloc _
  rw [hV1] at g1
  have s1 : V1.heap.size = w.heap.size + 1 := by rw [← hV1]; simp
  have s2 : V2.heap.size = w.heap.size + 2 := by rw [← hV2]; simp [s1]
  have s3 : V3.heap.size = w.heap.size + 3 := by rw [← hV3]; simp [s2]
  have n3 : V3.cell? ⟨w.heap.size + 1 + 1, 0, none⟩ = some (.int .i64 0) := by rw [← hV3, show w.heap.size + 1 + 1 = V2.heap.size from s2.symm]; simp [go_sem]
  have HE := Lib.hid (edge_each_none V3 (.func (.func 33) #[] #[.pointer (some ⟨w.heap.size, 0, none⟩), .pointer (some ⟨w.heap.size + 1, 0, none⟩), .pointer (some ⟨w.heap.size + 1 + 1, 0, none⟩)]))
  have HV1 := Lib.hid hV1
  have HV2 := Lib.hid hV2
  have HV3 := Lib.hid hV3
  have N3 := Lib.hid n3
  have GG := Lib.hid (g1.trans (g2.trans g3))
  have l3 : w.heap.size + 1 + 1 < V3.heap.size := by omega
  clear hV1 hV2 hV3 s1 s2 s3 g1 g2 g3 n3
  go_enter Try.func28, Try.ntmps28
  go_upto_region 2 with fail
  rw [HV1.out, HV2.out, HV3.out]
  clear HV1 HV2 HV3
  go_upto_region 3 with (go_at_call 32; refine HE.out.mono ?_; rintro e w2 ⟨rfl, g2⟩; have c0 := (g2.cell (p := ⟨w.heap.size + 1 + 1, 0, none⟩) l3).trans N3.out; have l4 := Nat.lt_of_lt_of_le l3 g2.size)
  go_wp2_with fail
  go_ret
  exact ⟨rfl, GG.out.trans g2⟩
-- COUNT]
-- [COPY
set_option maxRecDepth 100000 in
theorem edge_Copy (w : World) (g o : Nat) (ks : Nat → Int) (f n : Nat) (h : LogAt w g o ks f n) :
    Calls Try.prog 17 #[.pointer (some ⟨g, o, none⟩)] w fun e w' => e = .returned (.pointer (some ⟨w.heap.size, 0, none⟩)) ∧ LogAt w' w.heap.size 0 ks f n ∧ Grew w w' := by
  have HM := Lib.hid (edge_isMade w g o ks f n h)
  have HH := Lib.hid h
  obtain ⟨lt, hf, hn, c0, ca, c9, c10, fz⟩ := h
  have a0 := ca 0 (by omega)
  have a1 := ca 1 (by omega)
  have a2 := ca 2 (by omega)
  have a3 := ca 3 (by omega)
  have a4 := ca 4 (by omega)
  have a5 := ca 5 (by omega)
  have a6 := ca 6 (by omega)
  have a7 := ca 7 (by omega)
  simp only [Nat.add_assoc, Nat.reduceAdd] at a0 a1 a2 a3 a4 a5 a6 a7
  clear ca fz
  go_enter Try.func17, Try.ntmps17
  go_upto_region 4 with (go_at_call 26; refine HM.out.mono ?_; rintro e w1 ⟨rfl, hw1⟩; subst hw1)
  generalize hV : w.alloc _ = V
  have gV : Grew w V := by rw [← hV]; exact (Grew.refl w).alloc _
  have HL : Hid (LogAt V w.heap.size 0 ks f n) := Lib.hid (by
    rw [← hV]
    refine ⟨by simp, hf, hn, by simp [go_sem], fun j hj => ?_, by simp [go_sem], by simp [go_sem], fun j => by simp [go_sem]⟩
    match j, hj with
    | 0, _ => simp [go_sem]
    | 1, _ => simp [go_sem]
    | 2, _ => simp [go_sem]
    | 3, _ => simp [go_sem]
    | 4, _ => simp [go_sem]
    | 5, _ => simp [go_sem]
    | 6, _ => simp [go_sem]
    | 7, _ => simp [go_sem])
  clear hV
  go_wp2_with fail
  go_ret
  exact ⟨rfl, HL.out, gV⟩
theorem edge_Copy_none (w : World) : Calls Try.prog 17 #[.pointer none] w fun e w' => e = .returned (.pointer none) ∧ Grew w w' := by
  have HM := Lib.hid (edge_isMade_none w)
  go_enter Try.func17, Try.ntmps17
  go_wp2_with (go_at_call 26; refine HM.out.mono ?_; rintro e w1 ⟨rfl, hw1⟩; subst hw1)
  go_ret
  exact ⟨rfl, Grew.refl _⟩
-- COPY]
-- [NEW
theorem edge_New (w : World) : Calls Try.prog 15 #[] w fun e w' => e = .returned (.pointer (some ⟨w.heap.size, 0, none⟩)) ∧ LogAt w' w.heap.size 0 (fun _ => 0) 0 0 ∧ Grew w w' := by
  go_enter Try.func15, Try.ntmps15
  go_wp2_with fail
  go_ret
  refine ⟨rfl, ⟨by simp, by omega, by omega, by simp [go_sem], fun j hj => ?_, by simp [go_sem], by simp [go_sem], fun j => by simp [go_sem]⟩, (Grew.refl w).alloc _⟩
  match j, hj with
  | 0, _ => simp [go_sem]
  | 1, _ => simp [go_sem]
  | 2, _ => simp [go_sem]
  | 3, _ => simp [go_sem]
  | 4, _ => simp [go_sem]
  | 5, _ => simp [go_sem]
  | 6, _ => simp [go_sem]
  | 7, _ => simp [go_sem]
-- NEW]
end Go.Proofs.Ytkijonnbngnliaa
