/-
  The program's ring: an array that is gone round, behind a pointer; its short calls.
-/
import Derived.Test.YtkoklmecijejkaaRngL
import Derived.Deep.RegionHeld3
import Derived.Deep.MidRow
import Derived.Deep.WholeRow
namespace Go.Proofs.Ytkoklmecijejkaa
open Go.RowKit
set_option linter.unusedVariables false

/-- The program's ring in block g: where the oldest stands, how many it says it holds (more may be laid already). -/
structure ProgAt (w : World) (g size first held : Nat) (ns : List Nat) (lost : Nat) : Prop where
  lt : g < w.heap.size
  hs : 64 ≤ size ∧ size ≤ 4096
  hf : first < size
  hn : ns.length ≤ size
  hh : held ≤ size
  hb : Bytes ns
  c1 : w.cell? ⟨g, 4096, none⟩ = some (.int .i64 size)
  c2 : w.cell? ⟨g, 4097, none⟩ = some (.int .i64 first)
  c3 : w.cell? ⟨g, 4098, none⟩ = some (.int .i64 held)
  c4 : w.cell? ⟨g, 4099, none⟩ = some (.int .i64 lost)
  cs : ∀ i, i < ns.length → w.cell? ⟨g, (first + i) % size, none⟩ = some (.int .u8 (wd ns i))
  wh : ∃ C t, w.heap[g]? = some (.cells C t (0, 0)) ∧ C.size = 4100 ∧ C.all (·.oneCell') = true

section
variable {F : Nat → Prop} {w w' : World} {g size first held lost : Nat} {ns : List Nat}
theorem ProgAt.far (h : ProgAt w g size first held ns lost) (k : Far F w w') (hg : ¬ F g) : ProgAt w' g size first held ns lost :=
  ⟨Nat.lt_of_lt_of_le h.lt k.size, h.hs, h.hf, h.hn, h.hh, h.hb, (k.cell (p := ⟨g, 4096, none⟩) h.lt hg).trans h.c1, (k.cell (p := ⟨g, 4097, none⟩) h.lt hg).trans h.c2,
   (k.cell (p := ⟨g, 4098, none⟩) h.lt hg).trans h.c3, (k.cell (p := ⟨g, 4099, none⟩) h.lt hg).trans h.c4, fun i hi => (k.cell (p := ⟨g, _, none⟩) h.lt hg).trans (h.cs i hi), by
    obtain ⟨C, t, a, b, c⟩ := h.wh
    exact ⟨C, t, (k.block g h.lt hg).trans a, b, c⟩⟩
theorem ProgAt.grew (h : ProgAt w g size first held ns lost) (k : Grew w w') : ProgAt w' g size first held ns lost := h.far (F := fun _ => False) (Far.of_grew k) (fun h => h)
theorem ProgAt.frozen (h : ProgAt w g size first held ns lost) (j : Nat) : w.frozen? ⟨g, j, none⟩ = false := by
  obtain ⟨C, t, a, b, c⟩ := h.wh
  simp [World.frozen?, a]
theorem ProgAt.there (h : ProgAt w g size first held ns lost) (j : Nat) (hj : j < 4100) : ∃ u, w.cell? ⟨g, j, none⟩ = some u := by
  obtain ⟨C, t, a, b, c⟩ := h.wh
  exact ⟨C[j], by rw [cell_of_row w g j C t (0, 0) a]; simp [b, hj]⟩
/-- One cell is written over: the block is as whole as it was. -/
theorem whole_set {C : Array Value} {t : TypeId} (a : w.heap[g]? = some (.cells C t (0, 0))) (b : C.size = 4100) (c : C.all (·.oneCell') = true) (j : Nat) (u : Value) (hu : u.oneCell' = true) :
    ∃ C' t', (w.setCell ⟨g, j, none⟩ u).heap[g]? = some (.cells C' t' (0, 0)) ∧ C'.size = 4100 ∧ C'.all (·.oneCell') = true := by
  refine ⟨C.setIfInBounds j u, t, ?_, by simpa using b, ?_⟩
  · rw [setCell_eq_setRow w g j C t (0, 0) u a]; exact setRow_heap w g C _ t (0, 0) a
  · rw [Array.all_eq_true_iff_forall_mem] at c ⊢
    intro v hv
    rcases Array.mem_or_eq_of_mem_setIfInBounds hv with h | h
    · exact c v h
    · subst h; exact hu
end

/-- What a ring behind a pointer is. -/
def ProgR (w : World) (v : Value) (F : Nat → Prop) (size : Nat) (ns : List Nat) (lost : Nat) : Prop :=
  ∃ g first, v = .pointer (some ⟨g, 0, none⟩) ∧ (∀ k, F k ↔ k = g) ∧ ProgAt w g size first ns.length ns lost

theorem ring_isMade (w : World) (g size first held : Nat) (ns : List Nat) (lost : Nat) (h : ProgAt w g size first held ns lost) :
    Calls Try.prog 21 #[.pointer (some ⟨g, 0, none⟩)] w fun e w' => e = .returned (.bool true) ∧ Grew w w' := by
  have c1 := h.c1
  have hs := h.hs
  have hz : 0 < size := by omega
  clear h
  go_enter Try.func21, Try.ntmps21
  go_wp2_with fail
  go_ret
  exact ⟨by simp, Grew.refl _⟩
theorem ring_noMade (w : World) : Calls Try.prog 21 #[.pointer none] w fun e w' => e = .returned (.bool false) ∧ Grew w w' := by
  go_enter Try.func21, Try.ntmps21
  go_wp2_with fail
  go_ret
  exact ⟨rfl, Grew.refl _⟩

theorem ring_Len (w : World) (g size first held : Nat) (ns : List Nat) (lost : Nat) (h : ProgAt w g size first held ns lost) :
    Calls Try.prog 17 #[.pointer (some ⟨g, 0, none⟩)] w fun e w' => e = .returned (.int .i64 held) ∧ Grew w w' := by
  have H := Lib.hid (ring_isMade w g size first held ns lost h)
  have HH := Lib.hid h
  clear h
  go_enter Try.func17, Try.ntmps17
  go_wp2_with fail
  refine H.out.mono ?_
  rintro e w1 ⟨rfl, g1⟩
  have c3 := (HH.out.grew g1).c3
  go_wp2_with fail
  go_ret
  exact ⟨rfl, g1⟩
theorem ring_Size (w : World) (g size first held : Nat) (ns : List Nat) (lost : Nat) (h : ProgAt w g size first held ns lost) :
    Calls Try.prog 39 #[.pointer (some ⟨g, 0, none⟩)] w fun e w' => e = .returned (.int .i64 size) ∧ Grew w w' := by
  have H := Lib.hid (ring_isMade w g size first held ns lost h)
  have HH := Lib.hid h
  clear h
  go_enter Try.func39, Try.ntmps39
  go_wp2_with fail
  refine H.out.mono ?_
  rintro e w1 ⟨rfl, g1⟩
  have c3 := (HH.out.grew g1).c1
  go_wp2_with fail
  go_ret
  exact ⟨rfl, g1⟩

theorem ring_noLen (w : World) : Calls Try.prog 17 #[.pointer none] w fun e w' => e = .returned (.int .i64 0) ∧ Grew w w' := by
  have H := fun w => Lib.hid (ring_noMade w)
  go_enter Try.func17, Try.ntmps17
  go_wp2_with fail
  refine (H _).out.mono ?_
  rintro e w1 ⟨rfl, g1⟩
  go_wp2_with fail
  go_ret
  exact ⟨rfl, g1⟩
theorem ring_noSize (w : World) : Calls Try.prog 39 #[.pointer none] w fun e w' => e = .returned (.int .i64 0) ∧ Grew w w' := by
  have H := fun w => Lib.hid (ring_noMade w)
  go_enter Try.func39, Try.ntmps39
  go_wp2_with fail
  refine (H _).out.mono ?_
  rintro e w1 ⟨rfl, g1⟩
  go_wp2_with fail
  go_ret
  exact ⟨rfl, g1⟩
theorem ring_noCopy (w : World) : Calls Try.prog 19 #[.pointer none] w fun e w' => e = .returned (.pointer none) ∧ Grew w w' := by
  have H := fun w => Lib.hid (ring_noMade w)
  go_enter Try.func19, Try.ntmps19
  go_wp2_with fail
  refine (H _).out.mono ?_
  rintro e w1 ⟨rfl, g1⟩
  go_wp2_with fail
  go_ret
  exact ⟨rfl, g1⟩
theorem ring_noPut (w : World) (b : Value) : Calls Try.prog 9 #[.pointer none, b] w fun e w' => e = .returned (.int .i64 0) ∧ Grew w w' := by
  have H := fun w => Lib.hid (ring_noMade w)
  go_enter Try.func9, Try.ntmps9
  go_wp2_with fail
  refine (H _).out.mono ?_
  rintro e w1 ⟨rfl, g1⟩
  go_wp2_with fail
  go_ret
  exact ⟨rfl, g1⟩

/-- At least 0, at most so many. -/
theorem upTo_eq (n : Int) (m : Nat) : max 0 (min n (m : Int)) = ((min n.toNat m : Nat) : Int) := by omega
theorem ring_upTo (w : World) (g size first held : Nat) (ns : List Nat) (lost : Nat) (n : Int) (h : ProgAt w g size first held ns lost) (hn : -9223372036854775808 ≤ n ∧ n ≤ 9223372036854775807) :
    Calls Try.prog 27 #[.pointer (some ⟨g, 0, none⟩), .int .i64 n] w fun e w' => e = .returned (.int .i64 ((min n.toNat held : Nat) : Int)) ∧ Grew w w' := by
  have H := Lib.hid (ring_Len w g size first held ns lost h)
  have hh := h.hh
  have hs := h.hs
  clear h
  go_enter Try.func27, Try.ntmps27
  go_wp2_with fail
  refine H.out.mono ?_
  rintro e w1 ⟨rfl, g1⟩
  go_wp2_with fail
  all_goals go_ret
  all_goals (refine ⟨ret_int ?_, g1⟩; omega)
theorem ring_noUpTo (w : World) (n : Int) (hn : -9223372036854775808 ≤ n ∧ n ≤ 9223372036854775807) :
    Calls Try.prog 27 #[.pointer none, .int .i64 n] w fun e w' => e = .returned (.int .i64 0) ∧ Grew w w' := by
  have H := fun w => Lib.hid (ring_noLen w)
  go_enter Try.func27, Try.ntmps27
  go_wp2_with fail
  refine (H _).out.mono ?_
  rintro e w1 ⟨rfl, g1⟩
  go_wp2_with fail
  all_goals go_ret
  all_goals (refine ⟨ret_int ?_, g1⟩; omega)

/-- Where the i-th byte stands. -/
theorem ring_places1 (w : World) (first size i : Nat) (p q : Addr) (hp : w.cell? p = some (.int .i64 first)) (hq : w.cell? q = some (.int .i64 size)) (hf : first ≤ 4096) (hi : i ≤ 4096) (hs : 64 ≤ size ∧ size ≤ 4096) :
    Calls Try.prog 36 #[.int .i64 i, .pointer (some p), .pointer (some q)] w fun e w' => e = .returned (.int .i64 (((first + i) % size : Nat) : Int)) ∧ Grew w w' := by
  have n0 : ¬ (size : Int) = 0 := by omega
  have n1 : (size : Int) ≠ -1 := by omega
  have hv : IntKind.i64.wrap ((first : Int) + i) = ((first + i : Nat) : Int) := by rw [IntWalk.i64_in _ (by omega)]; omega
  have hm : ((first + i : Nat) : Int).tmod size = (((first + i) % size : Nat) : Int) := by rw [Int.tmod_eq_emod_of_nonneg (by omega)]; omega
  have hlt : (first + i) % size < size := Nat.mod_lt _ (by omega)
  generalize (first + i) % size = m at *
  generalize first + i = s at *
  go_enter Try.func36, Try.ntmps36
  go_wp2_with fail
  go_ret
  exact ⟨rfl, Grew.refl _⟩

/-- The function that tells it, over two boxes of its own. -/
def PlacesOf (first size : Nat) (w : World) (e : Ending) (w' : World) : Prop :=
  ∃ a b, e = .returned (.func (.func 36) #[] #[.pointer (some ⟨a, 0, none⟩), .pointer (some ⟨b, 0, none⟩)]) ∧ w.heap.size ≤ a ∧ w.heap.size ≤ b ∧ w'.cell? ⟨a, 0, none⟩ = some (.int .i64 first) ∧ w'.cell? ⟨b, 0, none⟩ = some (.int .i64 size) ∧ Grew w w'
end Go.Proofs.Ytkoklmecijejkaa
