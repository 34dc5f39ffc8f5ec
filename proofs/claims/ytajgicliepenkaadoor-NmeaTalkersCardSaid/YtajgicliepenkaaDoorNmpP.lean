/-
  The program's sentences: the kinds, as the map holds them.
-/
import Derived.Test.YtajgicliepenkaaDoorNmpO
import Derived.MapKept
import Derived.Laws.EntriesVeiled
namespace Go.Proofs.YtajgicliepenkaaDoor
open Go.RowKit
set_option linter.unusedVariables false

/-- Something new in memory. -/
theorem newO (w : World) (o : Obj) : ∃ W, w.alloc o = W ∧ Grew w W ∧ W.heap.size = w.heap.size + 1 ∧ W.heap[w.heap.size]? = some o :=
  ⟨_, rfl, (Grew.refl w).alloc _, by simp, heap_alloc_new w _⟩
/-- A key that is not there is put into a map. -/
theorem nk_put (w : World) (b : Nat) (es : Array MapEntry) (c : Nat) (x : ByteArray) (v : Value) (hb : w.heap[b]? = some (.map es c)) (hf : Instr.findNow .string (.string x) es.toList 0 = some none) :
    ∃ W, Sem.run Tryd.prog (Instr.mapUpdate 61 (.map (some b)) (.string x) v) w = .ok () W ∧ Far (fun k => k = b) w W ∧ W.heap.size = w.heap.size ∧ W.heap[b]? = some (.map (es.push { key := .string x, val := v, born := c }) (c + 1)) := by
  have hc : (Instr.checkKey false 10000 9 (.string x)).run Tryd.prog w = .ok () w := MapKept.run_checkKey (k := .string x) Tryd.underlying9 (by simp [MapKept.IsKey]) false 9999
  have hs := MapKept.heap_set (o' := .map (es.push { key := .string x, val := v, born := c }) (c + 1)) hb
  refine ⟨{ w with heap := w.heap.setIfInBounds b (.map (es.push { key := .string x, val := v, born := c }) (c + 1)) }, ?_, ⟨rfl, rfl, rfl, by simp, fun k _ hk => hs.2 k hk⟩, by simp, hs.1⟩
  simp [Instr.mapUpdate, run_underlying Tryd.underlying61, MapKept.run_getObj_map hb, hc, MapKept.run_findKey Tryd.underlying9 hf, MapKept.run_setObj_map _ hb, Result.andThen]
/-- A kind, as the map holds it. -/
def nkv (num least most : Int) (need : Value) (g : Nat) : Value := .agg #[.int .u8 num, .int .i64 least, .int .i64 most, need, .func (.func g) #[] #[]]
def nkeys : List ByteArray := [⟨#[82, 77, 67]⟩, ⟨#[71, 71, 65]⟩, ⟨#[71, 76, 76]⟩, ⟨#[71, 83, 65]⟩, ⟨#[90, 68, 65]⟩, ⟨#[86, 84, 71]⟩, ⟨#[71, 83, 86]⟩]
def nvals (M : Nat) : List Value := [nkv 1 11 13 (.slice (some ⟨M + 1, 0, none⟩) 1 1) 26, nkv 2 14 14 (.slice none 0 0) 27, nkv 3 6 7 (.slice (some ⟨M + 2, 0, none⟩) 1 1) 28, nkv 4 17 18 (.slice (some ⟨M + 3, 0, none⟩) 2 2) 29,
  nkv 5 6 6 (.slice none 0 0) 30, nkv 6 8 9 (.slice none 0 0) 31, nkv 7 3 20 (.slice (some ⟨M + 4, 0, none⟩) 3 3) 32]
def nkinds (M : Nat) (k : Nat) : Array MapEntry := ((List.range k).map fun i => { key := .string (nkeys.getD i ⟨#[]⟩), val := (nvals M).getD i (.int .i64 0), born := i }).toArray
theorem nkinds_push (M k : Nat) : (nkinds M k).push { key := .string (nkeys.getD k ⟨#[]⟩), val := (nvals M).getD k (.int .i64 0), born := k } = nkinds M (k + 1) := by
  unfold nkinds
  rw [List.range_succ, List.map_append]
  simp
theorem nkinds_none (M k : Nat) (h : k < 7) : Instr.findNow .string (.string (nkeys.getD k ⟨#[]⟩)) (nkinds M k).toList 0 = some none := by
  rcases (show k = 0 ∨ k = 1 ∨ k = 2 ∨ k = 3 ∨ k = 4 ∨ k = 5 ∨ k = 6 by omega) with rfl | rfl | rfl | rfl | rfl | rfl | rfl <;> rfl
/-- One kind more. -/
theorem nk_more (w : World) (M k : Nat) (hb : w.heap[M]? = some (.map (nkinds M k) k)) (h : k < 7) :
    ∃ W, Sem.run Tryd.prog (Instr.mapUpdate 61 (.map (some M)) (.string (nkeys.getD k ⟨#[]⟩)) ((nvals M).getD k (.int .i64 0))) w = .ok () W ∧ Far (fun j => j = M) w W ∧ W.heap.size = w.heap.size ∧ W.heap[M]? = some (.map (nkinds M (k + 1)) (k + 1)) := by
  have := nk_put w M (nkinds M k) k (nkeys.getD k ⟨#[]⟩) ((nvals M).getD k (.int .i64 0)) hb (nkinds_none M k h)
  rwa [nkinds_push] at this
/-- What the map's making leaves. -/
structure NKinds (w : World) (M : Nat) : Prop where
  map : w.heap[M]? = some (.map (nkinds M 7) 7)
  size : M + 5 ≤ w.heap.size
  r : w.heap[M + 1]? = some (.cells #[.int .i64 2] 3)
  l : w.heap[M + 2]? = some (.cells #[.int .i64 6] 3)
  a : w.heap[M + 3]? = some (.cells #[.int .i64 1, .int .i64 2] 3)
  v : w.heap[M + 4]? = some (.cells #[.int .i64 1, .int .i64 2, .int .i64 3] 3)
set_option maxHeartbeats 2000000 in
set_option maxRecDepth 100000 in
theorem nk_kinds (w : World) : Calls Tryd.prog 18 #[] w fun e w' => e = .returned (.map (some w.heap.size)) ∧ NKinds w' w.heap.size ∧ Grew w w' := by
  have hmm := @run_makeMap Tryd.prog
  obtain ⟨V0, hV0, g0, s0, m0⟩ := newO w (.map #[] 0)
  obtain ⟨V1, hV1, g1, s1, c1⟩ := newO V0 (.cells #[.int .i64 2] 3)
  obtain ⟨V2, i2, f2, s2, m2⟩ := nk_more V1 w.heap.size 0 ((g1.below.block _ (by omega)).trans m0) (by omega)
  obtain ⟨V3, i3, f3, s3, m3⟩ := nk_more V2 w.heap.size 1 m2 (by omega)
  obtain ⟨V4, hV4, g4, s4, c4⟩ := newO V3 (.cells #[.int .i64 6] 3)
  obtain ⟨V5, i5, f5, s5, m5⟩ := nk_more V4 w.heap.size 2 ((g4.below.block _ (by omega)).trans m3) (by omega)
  obtain ⟨V6, hV6, g6, s6, c6⟩ := newO V5 (.cells #[.int .i64 1, .int .i64 2] 3)
  obtain ⟨V7, i7, f7, s7, m7⟩ := nk_more V6 w.heap.size 3 ((g6.below.block _ (by omega)).trans m5) (by omega)
  obtain ⟨V8, i8, f8, s8, m8⟩ := nk_more V7 w.heap.size 4 m7 (by omega)
  obtain ⟨V9, i9, f9, s9, m9⟩ := nk_more V8 w.heap.size 5 m8 (by omega)
  obtain ⟨V10, hV10, g10, s10, c10⟩ := newO V9 (.cells #[.int .i64 1, .int .i64 2, .int .i64 3] 3)
  obtain ⟨V11, i11, f11, s11, m11⟩ := nk_more V10 w.heap.size 6 ((g10.below.block _ (by omega)).trans m9) (by omega)
  obtain ⟨M, hM⟩ : ∃ M, w.heap.size = M := ⟨_, rfl⟩
  have K : NKinds V11 M := by
    subst hM
    have z : V11.heap.size = w.heap.size + 5 := by omega
    refine ⟨m11, by omega, ?_, ?_, ?_, ?_⟩
    · rw [f11.block _ (by omega) (by omega), g10.below.block _ (by omega), f9.block _ (by omega) (by omega), f8.block _ (by omega) (by omega), f7.block _ (by omega) (by omega), g6.below.block _ (by omega), f5.block _ (by omega) (by omega), g4.below.block _ (by omega), f3.block _ (by omega) (by omega), f2.block _ (by omega) (by omega), ← s0]; exact c1
    · rw [f11.block _ (by omega) (by omega), g10.below.block _ (by omega), f9.block _ (by omega) (by omega), f8.block _ (by omega) (by omega), f7.block _ (by omega) (by omega), g6.below.block _ (by omega), f5.block _ (by omega) (by omega), show w.heap.size + 2 = V3.heap.size by omega]; exact c4
    · rw [f11.block _ (by omega) (by omega), g10.below.block _ (by omega), f9.block _ (by omega) (by omega), f8.block _ (by omega) (by omega), f7.block _ (by omega) (by omega), show w.heap.size + 3 = V5.heap.size by omega]; exact c6
    · rw [f11.block _ (by omega) (by omega), show w.heap.size + 4 = V9.heap.size by omega]; exact c10
  have G : Grew w V11 := by
    have e : ∀ (j : Nat), (fun j => j = w.heap.size) j → w.heap.size ≤ j := fun j hj => Nat.le_of_eq hj.symm
    have a2 := f2.grew (g0.trans g1) e
    have a3 := f3.grew a2 e
    have a5 := f5.grew (a3.trans g4) e
    have a7 := f7.grew (a5.trans g6) e
    have a9 := f9.grew (f8.grew a7 e) e
    exact f11.grew (a9.trans g10) e
  have t0 : V0.heap.size = w.heap.size + 1 := s0
  have t3 : V3.heap.size = w.heap.size + 2 := by omega
  have t5 : V5.heap.size = w.heap.size + 3 := by omega
  have t9 : V9.heap.size = w.heap.size + 4 := by omega
  have HK := Lib.hid K
  have HG := Lib.hid G
  have HM := Lib.hid hM
  clear K G hM s0 s1 s2 s3 s4 s5 s6 s7 s8 s9 s10 s11 m0 m2 m3 m5 m7 m8 m9 m11 c1 c4 c6 c10 f2 f3 f5 f7 f8 f9 f11 g0 g1 g4 g6 g10
  simp only [nkeys, nvals, nkv, List.getD_cons_zero, List.getD_cons_succ] at i2 i3 i5 i7 i8 i9 i11
  go_enter Tryd.func18, Tryd.ntmps18
  go_wp2_with fail
  go_ret
  rw [HM.out]
  exact ⟨rfl, HK.out, HG.out⟩
end Go.Proofs.YtajgicliepenkaaDoor
