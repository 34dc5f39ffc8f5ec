/-
  The program's ring: an array that is gone round, behind a pointer; its short calls.
  The program's ring: its places, its new ones, its copies, its bytes.
  The program's ring: a new one, its copy, one byte, the first ones let go.
  The program's ring: the first ones let go, the first ones told.
  The program's ring: bytes laid behind; what all its calls tell.
  What the program's ring tells, as the laws ask it.
-/
import Derived.Test.YtlcmjedbdopglaaGreatDoorRngL
import Derived.Test.YtlcmjedbdopglaaGreatDoorCellsW
import Derived.Deep.RegionHeld3
import Derived.Deep.MidRow
import Derived.Deep.WholeRow
import Derived.Deep.CutBlock
import Derived.LoopTactic
import Derived.Deep.DeepCutAuto
namespace Go.Proofs.YtlcmjedbdopglaaGreatDoor
open Go.RowKit
set_option linter.unusedVariables false

/- The program's ring: an array that is gone round, behind a pointer; its short calls. -/
/-- The program's ring in block g: where the oldest stands, how many it says it holds (more may be laid already). -/
structure ProgAt (w : World) (g size first held : Nat) (ns : List Nat) (lost : Nat) : Prop where
  lt : g < w.heap.size
  hs : 64 ≤ size ∧ size ≤ 4096
  hf : first < size
  hn : ns.length ≤ size
  hh : held ≤ size
  hb : Bytes ns
  c1 : w.cell? ⟨g, 4096, none⟩ = some (.int .i64 size)
  c2 : w.cell? ⟨g, 4097, none⟩ = some (.int .i64 first)
  c3 : w.cell? ⟨g, 4098, none⟩ = some (.int .i64 held)
  c4 : w.cell? ⟨g, 4099, none⟩ = some (.int .i64 lost)
  cs : ∀ i, i < ns.length → w.cell? ⟨g, (first + i) % size, none⟩ = some (.int .u8 (wd ns i))
  wh : ∃ C t, w.heap[g]? = some (.cells C t (0, 0)) ∧ C.size = 4100 ∧ C.all (·.oneCell') = true

section
variable {F : Nat → Prop} {w w' : World} {g size first held lost : Nat} {ns : List Nat}
theorem ProgAt.far (h : ProgAt w g size first held ns lost) (k : Far F w w') (hg : ¬ F g) : ProgAt w' g size first held ns lost :=
  ⟨Nat.lt_of_lt_of_le h.lt k.size, h.hs, h.hf, h.hn, h.hh, h.hb, (k.cell (p := ⟨g, 4096, none⟩) h.lt hg).trans h.c1, (k.cell (p := ⟨g, 4097, none⟩) h.lt hg).trans h.c2,
   (k.cell (p := ⟨g, 4098, none⟩) h.lt hg).trans h.c3, (k.cell (p := ⟨g, 4099, none⟩) h.lt hg).trans h.c4, fun i hi => (k.cell (p := ⟨g, _, none⟩) h.lt hg).trans (h.cs i hi), by
    obtain ⟨C, t, a, b, c⟩ := h.wh
    exact ⟨C, t, (k.block g h.lt hg).trans a, b, c⟩⟩
theorem ProgAt.grew (h : ProgAt w g size first held ns lost) (k : Grew w w') : ProgAt w' g size first held ns lost := h.far (F := fun _ => False) (Far.of_grew k) (fun h => h)
theorem ProgAt.frozen (h : ProgAt w g size first held ns lost) (j : Nat) : w.frozen? ⟨g, j, none⟩ = false := by
  obtain ⟨C, t, a, b, c⟩ := h.wh
  simp [World.frozen?, a]
theorem ProgAt.there (h : ProgAt w g size first held ns lost) (j : Nat) (hj : j < 4100) : ∃ u, w.cell? ⟨g, j, none⟩ = some u := by
  obtain ⟨C, t, a, b, c⟩ := h.wh
  exact ⟨C[j], by rw [cell_of_row w g j C t (0, 0) a]; simp [b, hj]⟩
/-- One cell is written over: the block is as whole as it was. -/
theorem whole_set {C : Array Value} {t : TypeId} (a : w.heap[g]? = some (.cells C t (0, 0))) (b : C.size = 4100) (c : C.all (·.oneCell') = true) (j : Nat) (u : Value) (hu : u.oneCell' = true) :
    ∃ C' t', (w.setCell ⟨g, j, none⟩ u).heap[g]? = some (.cells C' t' (0, 0)) ∧ C'.size = 4100 ∧ C'.all (·.oneCell') = true := by
  refine ⟨C.setIfInBounds j u, t, ?_, by simpa using b, ?_⟩
  · rw [setCell_eq_setRow w g j C t (0, 0) u a]; exact setRow_heap w g C _ t (0, 0) a
  · rw [Array.all_eq_true_iff_forall_mem] at c ⊢
    intro v hv
    rcases Array.mem_or_eq_of_mem_setIfInBounds hv with h | h
    · exact c v h
    · subst h; exact hu
end

/-- What a ring behind a pointer is. -/
def ProgR (w : World) (v : Value) (F : Nat → Prop) (size : Nat) (ns : List Nat) (lost : Nat) : Prop :=
  ∃ g first, v = .pointer (some ⟨g, 0, none⟩) ∧ (∀ k, F k ↔ k = g) ∧ ProgAt w g size first ns.length ns lost

theorem ring_isMade (w : World) (g size first held : Nat) (ns : List Nat) (lost : Nat) (h : ProgAt w g size first held ns lost) :
    Calls Tryz.prog 30 #[.pointer (some ⟨g, 0, none⟩)] w fun e w' => e = .returned (.bool true) ∧ Grew w w' := by
  have c1 := h.c1
  have hs := h.hs
  have hz : 0 < size := by omega
  clear h
  go_enter Tryz.func30, Tryz.ntmps30
  go_wp2_with fail
  go_ret
  exact ⟨by simp, Grew.refl _⟩
theorem ring_noMade (w : World) : Calls Tryz.prog 30 #[.pointer none] w fun e w' => e = .returned (.bool false) ∧ Grew w w' := by
  go_enter Tryz.func30, Tryz.ntmps30
  go_wp2_with fail
  go_ret
  exact ⟨rfl, Grew.refl _⟩

theorem ring_Len (w : World) (g size first held : Nat) (ns : List Nat) (lost : Nat) (h : ProgAt w g size first held ns lost) :
    Calls Tryz.prog 18 #[.pointer (some ⟨g, 0, none⟩)] w fun e w' => e = .returned (.int .i64 held) ∧ Grew w w' := by
  have H := Lib.hid (ring_isMade w g size first held ns lost h)
  have HH := Lib.hid h
  clear h
  go_enter Tryz.func18, Tryz.ntmps18
  go_wp2_with fail
  refine H.out.mono ?_
  rintro e w1 ⟨rfl, g1⟩
  have c3 := (HH.out.grew g1).c3
  go_wp2_with fail
  go_ret
  exact ⟨rfl, g1⟩
theorem ring_Size (w : World) (g size first held : Nat) (ns : List Nat) (lost : Nat) (h : ProgAt w g size first held ns lost) :
    Calls Tryz.prog 53 #[.pointer (some ⟨g, 0, none⟩)] w fun e w' => e = .returned (.int .i64 size) ∧ Grew w w' := by
  have H := Lib.hid (ring_isMade w g size first held ns lost h)
  have HH := Lib.hid h
  clear h
  go_enter Tryz.func53, Tryz.ntmps53
  go_wp2_with fail
  refine H.out.mono ?_
  rintro e w1 ⟨rfl, g1⟩
  have c3 := (HH.out.grew g1).c1
  go_wp2_with fail
  go_ret
  exact ⟨rfl, g1⟩

theorem ring_noLen (w : World) : Calls Tryz.prog 18 #[.pointer none] w fun e w' => e = .returned (.int .i64 0) ∧ Grew w w' := by
  have H := fun w => Lib.hid (ring_noMade w)
  go_enter Tryz.func18, Tryz.ntmps18
  go_wp2_with fail
  refine (H _).out.mono ?_
  rintro e w1 ⟨rfl, g1⟩
  go_wp2_with fail
  go_ret
  exact ⟨rfl, g1⟩
theorem ring_noSize (w : World) : Calls Tryz.prog 53 #[.pointer none] w fun e w' => e = .returned (.int .i64 0) ∧ Grew w w' := by
  have H := fun w => Lib.hid (ring_noMade w)
  go_enter Tryz.func53, Tryz.ntmps53
  go_wp2_with fail
  refine (H _).out.mono ?_
  rintro e w1 ⟨rfl, g1⟩
  go_wp2_with fail
  go_ret
  exact ⟨rfl, g1⟩
theorem ring_noPut (w : World) (b : Value) : Calls Tryz.prog 16 #[.pointer none, b] w fun e w' => e = .returned (.int .i64 0) ∧ Grew w w' := by
  have H := fun w => Lib.hid (ring_noMade w)
  go_enter Tryz.func16, Tryz.ntmps16
  go_wp2_with fail
  refine (H _).out.mono ?_
  rintro e w1 ⟨rfl, g1⟩
  go_wp2_with fail
  go_ret
  exact ⟨rfl, g1⟩

/-- At least 0, at most so many. -/
theorem upTo_eq (n : Int) (m : Nat) : max 0 (min n (m : Int)) = ((min n.toNat m : Nat) : Int) := by omega
theorem ring_upTo (w : World) (g size first held : Nat) (ns : List Nat) (lost : Nat) (n : Int) (h : ProgAt w g size first held ns lost) (hn : -9223372036854775808 ≤ n ∧ n ≤ 9223372036854775807) :
    Calls Tryz.prog 49 #[.pointer (some ⟨g, 0, none⟩), .int .i64 n] w fun e w' => e = .returned (.int .i64 ((min n.toNat held : Nat) : Int)) ∧ Grew w w' := by
  have H := Lib.hid (ring_Len w g size first held ns lost h)
  have hh := h.hh
  have hs := h.hs
  clear h
  go_enter Tryz.func49, Tryz.ntmps49
  go_wp2_with fail
  refine H.out.mono ?_
  rintro e w1 ⟨rfl, g1⟩
  go_wp2_with fail
  all_goals go_ret
  all_goals (refine ⟨ret_int ?_, g1⟩; omega)
theorem ring_noUpTo (w : World) (n : Int) (hn : -9223372036854775808 ≤ n ∧ n ≤ 9223372036854775807) :
    Calls Tryz.prog 49 #[.pointer none, .int .i64 n] w fun e w' => e = .returned (.int .i64 0) ∧ Grew w w' := by
  have H := fun w => Lib.hid (ring_noLen w)
  go_enter Tryz.func49, Tryz.ntmps49
  go_wp2_with fail
  refine (H _).out.mono ?_
  rintro e w1 ⟨rfl, g1⟩
  go_wp2_with fail
  all_goals go_ret
  all_goals (refine ⟨ret_int ?_, g1⟩; omega)

/-- Where the i-th byte stands. -/
theorem ring_places1 (w : World) (first size i : Nat) (p q : Addr) (hp : w.cell? p = some (.int .i64 first)) (hq : w.cell? q = some (.int .i64 size)) (hf : first ≤ 4096) (hi : i ≤ 4096) (hs : 64 ≤ size ∧ size ≤ 4096) :
    Calls Tryz.prog 50 #[.int .i64 i, .pointer (some p), .pointer (some q)] w fun e w' => e = .returned (.int .i64 (((first + i) % size : Nat) : Int)) ∧ Grew w w' := by
  have n0 : ¬ (size : Int) = 0 := by omega
  have n1 : (size : Int) ≠ -1 := by omega
  have hv : IntKind.i64.wrap ((first : Int) + i) = ((first + i : Nat) : Int) := by rw [IntWalk.i64_in _ (by omega)]; omega
  have hm : ((first + i : Nat) : Int).tmod size = (((first + i) % size : Nat) : Int) := by rw [Int.tmod_eq_emod_of_nonneg (by omega)]; omega
  have hlt : (first + i) % size < size := Nat.mod_lt _ (by omega)
  generalize (first + i) % size = m at *
  generalize first + i = s at *
  go_enter Tryz.func50, Tryz.ntmps50
  go_wp2_with fail
  go_ret
  exact ⟨rfl, Grew.refl _⟩

/-- The function that tells it, over two boxes of its own. -/
def PlacesOf (first size : Nat) (w : World) (e : Ending) (w' : World) : Prop :=
  ∃ a b, e = .returned (.func (.func 50) #[] #[.pointer (some ⟨a, 0, none⟩), .pointer (some ⟨b, 0, none⟩)]) ∧ w.heap.size ≤ a ∧ w.heap.size ≤ b ∧ w'.cell? ⟨a, 0, none⟩ = some (.int .i64 first) ∧ w'.cell? ⟨b, 0, none⟩ = some (.int .i64 size) ∧ Grew w w'
/- The program's ring: its places, its new ones, its copies, its bytes. -/
theorem ring_places (w : World) (g size first held : Nat) (ns : List Nat) (lost : Nat) (h : ProgAt w g size first held ns lost) :
    Calls Tryz.prog 32 #[.pointer (some ⟨g, 0, none⟩)] w (PlacesOf first size w) := by
  have c1 := h.c1
  have c2 := h.c2
  have lt := h.lt
  clear h
  go_enter Tryz.func32, Tryz.ntmps32
  go_wp2_with fail
  go_region
  all_goals
    go_wp2_with fail
    go_ret
    refine ⟨_, _, rfl, by omega, by omega, ?_, ?_, (((Grew.refl w).alloc _).alloc _).drew⟩ <;> simp [go_sem]

/-- The cells of a new ring. -/
def ringCells (n : Int) : Array Value := Array.replicate 4096 (.int .u8 0) ++ #[.int .i64 n, .int .i64 0, .int .i64 0, .int .i64 0]
theorem ring_built (n : Int) : Tryz.prog.built 80 [(1, .int .i64 n)] = some (ringCells n) := by kernel_rfl
theorem ringCells_size (n : Int) : (ringCells n).size = 4100 := by simp [ringCells]
theorem ringCells_one (n : Int) : (ringCells n).all (·.oneCell') = true := by
  rw [Array.all_eq_true_iff_forall_mem]
  intro v hv
  simp only [ringCells, Array.mem_append, Array.mem_replicate] at hv
  rcases hv with ⟨_, rfl⟩ | hv
  · rfl
  · simp at hv; rcases hv with rfl | rfl <;> rfl

theorem ring_bad (n : Int) (w : World) (hn : -9223372036854775808 ≤ n ∧ n ≤ 9223372036854775807) (hb : n < 64 ∨ 4096 < n) :
    Calls Tryz.prog 15 #[.int .i64 n] w fun e w' => e = .returned (.tuple #[.pointer none, .int .i64 2]) ∧ Grew w w' := by
  rcases (show n < 64 ∨ (64 ≤ n ∧ 4096 < n) by omega) with h | h
  all_goals
    go_enter Tryz.func15, Tryz.ntmps15
    go_wp2_with fail
    go_ret2
    exact ⟨rfl, Grew.refl _⟩

set_option maxHeartbeats 1000000 in
set_option maxRecDepth 100000 in
theorem ring_New (n : Nat) (w : World) (hn : 64 ≤ n ∧ n ≤ 4096) :
    Calls Tryz.prog 15 #[.int .i64 n] w fun e w' => e = .returned (.tuple #[.pointer (some ⟨w.heap.size, 0, none⟩), .int .i64 0]) ∧ w' = w.alloc (.cells (ringCells n) 80) := by
  have HB := Lib.hid (ring_built n)
  generalize ringCells n = C at *
  go_enter Tryz.func15, Tryz.ntmps15
  go_wp2_with (refine wpList_build_as rfl 80 _ rfl C [(1, .int .i64 n)] rfl HB.out ?_)
  go_ret2
  exact ⟨rfl, rfl⟩
/- The program's ring: a new one, its copy, one byte, the first ones let go. -/
theorem cell_alloc_last (w : World) (C : Array Value) (T : TypeId) (j : Nat) : (w.alloc (.cells C T)).cell? ⟨w.heap.size, j, none⟩ = C[j]? :=
  cell_of_row _ _ _ C T (0, 0) (heap_alloc_last w _)

theorem progAt_new (w : World) (T : TypeId) (n : Nat) (hn : 64 ≤ n ∧ n ≤ 4096) : ProgAt (w.alloc (.cells (ringCells n) T)) w.heap.size n 0 0 [] 0 := by
  refine ⟨by simp, hn, by omega, by simp, by omega, fun i => by simp [wd], ?_, ?_, ?_, ?_, by intro i hi; simp at hi, ⟨ringCells n, T, heap_alloc_last w _, ringCells_size n, ringCells_one n⟩⟩
  all_goals (rw [cell_alloc_last]; simp [ringCells])
theorem ProgAt.copy {w : World} {g size first held lost : Nat} {ns : List Nat} (h : ProgAt w g size first held ns lost) {C : Array Value} {t : TypeId} (a : w.heap[g]? = some (.cells C t (0, 0))) (b : C.size = 4100) (c : C.all (·.oneCell') = true) (T : TypeId) :
    ProgAt (w.alloc (.cells C T)) w.heap.size size first held ns lost := by
  have e : ∀ j, (w.alloc (.cells C T)).cell? ⟨w.heap.size, j, none⟩ = w.cell? ⟨g, j, none⟩ := fun j => by rw [cell_alloc_last, cell_of_row w g j C t (0, 0) a]
  exact ⟨by simp, h.hs, h.hf, h.hn, h.hh, h.hb, (e _).trans h.c1, (e _).trans h.c2, (e _).trans h.c3, (e _).trans h.c4, fun i hi => (e _).trans (h.cs i hi), ⟨C, T, heap_alloc_last w _, b, c⟩⟩

theorem ring_zero : (∀ w, (zeroValue 80).run Tryz.prog w = .ok (.agg (ringCells 0)) w) ∧ (Tryz.prog.info? 80).map (·.size) = some 4100 := zero_of_info (by kernel_rfl)


theorem ring_At_no (w : World) (g size first held : Nat) (ns : List Nat) (lost : Nat) (i : Int) (h : ProgAt w g size first held ns lost) (hi : -9223372036854775808 ≤ i ∧ i ≤ 9223372036854775807) (hno : i < 0 ∨ (held : Int) ≤ i) :
    Calls Tryz.prog 52 #[.pointer (some ⟨g, 0, none⟩), .int .i64 i] w fun e w' => e = .returned (.tuple #[.int .u8 0, .bool false]) ∧ Grew w w' := by
  have H := Lib.hid (ring_Len w g size first held ns lost h)
  clear h
  rcases (show i < 0 ∨ (0 ≤ i ∧ (held : Int) ≤ i) by omega) with hc | hc
  · go_enter Tryz.func52, Tryz.ntmps52
    go_wp2_with fail
    go_ret2
    exact ⟨rfl, Grew.refl _⟩
  · go_enter Tryz.func52, Tryz.ntmps52
    go_wp2_with fail
    refine H.out.mono ?_
    rintro e w1 ⟨rfl, g1⟩
    go_wp2_with fail
    go_ret2
    exact ⟨rfl, g1⟩
theorem ring_noAt (w : World) (i : Int) (hi : -9223372036854775808 ≤ i ∧ i ≤ 9223372036854775807) :
    Calls Tryz.prog 52 #[.pointer none, .int .i64 i] w fun e w' => e = .returned (.tuple #[.int .u8 0, .bool false]) ∧ Grew w w' := by
  have H := fun w => Lib.hid (ring_noLen w)
  by_cases hc : i < 0
  · go_enter Tryz.func52, Tryz.ntmps52
    go_wp2_with fail
    go_ret2
    exact ⟨rfl, Grew.refl _⟩
  · have hc' : 0 ≤ i := by omega
    clear hc
    go_enter Tryz.func52, Tryz.ntmps52
    go_wp2_with fail
    refine (H _).out.mono ?_
    rintro e w1 ⟨rfl, g1⟩
    go_wp2_with fail
    go_ret2
    exact ⟨rfl, g1⟩

set_option maxRecDepth 100000 in
set_option maxHeartbeats 1000000 in
theorem ring_At (w : World) (g size first : Nat) (ns : List Nat) (lost i : Nat) (h : ProgAt w g size first ns.length ns lost) (hi : i < ns.length) :
    Calls Tryz.prog 52 #[.pointer (some ⟨g, 0, none⟩), .int .i64 i] w fun e w' => e = .returned (.tuple #[.int .u8 (wd ns i : Nat), .bool true]) ∧ Grew w w' := by
  have H := Lib.hid (ring_Len w g size first ns.length ns lost h)
  have hs := h.hs
  have hf := h.hf
  have hn := h.hn
  have HP : ∀ w', Grew w w' → Hid (Calls Tryz.prog 32 #[.pointer (some ⟨g, 0, none⟩)] w' (PlacesOf first size w')) := fun w' k => Lib.hid (ring_places w' g size first ns.length ns lost (h.grew k))
  have HQ := fun (w' : World) (p q : Addr) hp hq => Lib.hid (ring_places1 w' first size i p q hp hq (by omega) (by omega) hs)
  have hlt : (first + i) % size < size := Nat.mod_lt _ (by omega)
  have KC : ∀ w', Grew w w' → Hid (w'.cell? ⟨g, (first + i) % size, none⟩ = some (.int .u8 (wd ns i : Nat))) := fun w' k => Lib.hid ((h.grew k).cs i hi)
  generalize (first + i) % size = m at *
  generalize wd ns i = x at *
  have m0 : (0 : Int) ≤ m := by omega
  have m1 : (m : Int) < 4096 := by omega
  have i0 : (0 : Int) ≤ i := by omega
  have i1 : (i : Int) < ns.length := by omega
  generalize ns.length = N at *
  clear h hs hf hn hlt hi
  go_enter Tryz.func52, Tryz.ntmps52
  go_wp2_with fail
  refine H.out.mono ?_
  rintro e w1 ⟨rfl, g1⟩
  have G := g1.drew
  clear H g1
  go_wp2_with fail
  go_region_held3 (fun w' => w'.cell? ⟨g, m, none⟩ = some (.int .u8 x)) (exact (KC _ G).out) (first | (go_at_call 32; refine (HP _ G).out.mono ?_; rintro e w2 ⟨a, b, rfl, ha, hb, q1, q2, g2⟩; replace G := G.trans g2; clear g2 ha hb) | (go_at_call 50; refine (HQ _ _ _ q1 q2).out.mono ?_; rintro e w3 ⟨rfl, g3⟩; replace G := G.trans g3; clear g3))
  go_wp2_with fail
  go_ret2
  exact ⟨rfl, G⟩
/- The program's ring: the first ones let go, the first ones told. -/
theorem wd_drop (ns : List Nat) (n i : Nat) : wd (ns.drop n) i = wd ns (n + i) := by simp [wd]
theorem addr_ne {g i j : Nat} (h : i ≠ j) : (⟨g, i, none⟩ : Addr) ≠ ⟨g, j, none⟩ := fun e => h (by injection e)
theorem progAt_drop {w : World} {g size first lost : Nat} {ns : List Nat} (h : ProgAt w g size first ns.length ns lost) (n : Nat) (hn : n ≤ ns.length) :
    ProgAt ((w.setCell ⟨g, 4097, none⟩ (.int .i64 ((first + n) % size : Nat))).setCell ⟨g, 4098, none⟩ (.int .i64 ((ns.length : Int) - n))) g size ((first + n) % size) (ns.drop n).length (ns.drop n) lost := by
  have ho : ∀ j (u v : Value), j ≠ 4097 → j ≠ 4098 → ((w.setCell ⟨g, 4097, none⟩ u).setCell ⟨g, 4098, none⟩ v).cell? ⟨g, j, none⟩ = w.cell? ⟨g, j, none⟩ := fun j u v h1 h2 => by
    rw [World.cell?_setCell_other _ _ _ _ (addr_ne (Ne.symm h2)), World.cell?_setCell_other _ _ _ _ (addr_ne (Ne.symm h1))]
  have hs := h.hs
  have hN := h.hn
  have hlt : (first + n) % size < size := Nat.mod_lt _ (by omega)
  refine ⟨by simpa [World.setCell] using h.lt, hs, hlt, by rw [List.length_drop]; omega, by rw [List.length_drop]; omega, fun i => by rw [wd_drop]; exact h.hb _, ?_, ?_, ?_, ?_, fun i hi => ?_, ?_⟩
  · rw [ho _ _ _ (by omega) (by omega)]; exact h.c1
  · rw [World.cell?_setCell_other _ _ _ _ (addr_ne (by omega))]; exact World.cell?_setCell_same _ _ _ h.c2
  · rw [World.cell?_setCell_same _ _ _ (by rw [World.cell?_setCell_other _ _ _ _ (addr_ne (by omega))]; exact h.c3), List.length_drop, Int.ofNat_sub hn]
  · rw [ho _ _ _ (by omega) (by omega)]; exact h.c4
  · rw [List.length_drop] at hi
    have hl2 : ((first + n) % size + i) % size < size := Nat.mod_lt _ (by omega)
    rw [ho _ _ _ (by omega) (by omega), Nat.mod_add_mod, Nat.add_assoc, wd_drop]
    exact h.cs (n + i) (by omega)
  · obtain ⟨C, t, a, b, c⟩ := h.wh
    obtain ⟨C', t', a', b', c'⟩ := whole_set a b c 4097 (.int .i64 ((first + n) % size : Nat)) rfl
    exact whole_set a' b' c' 4098 _ rfl

def DropOf (g size : Nat) (ns : List Nat) (lost m : Nat) (w : World) (e : Ending) (w' : World) : Prop :=
  ∃ first', e = .returned (.int .i64 (m : Nat)) ∧ ProgAt w' g size first' (ns.drop m).length (ns.drop m) lost ∧ Far (fun k => k = g) w w'

set_option maxRecDepth 100000 in
set_option maxHeartbeats 1000000 in
theorem ring_Drop (w : World) (g size first : Nat) (ns : List Nat) (lost : Nat) (n : Int) (h : ProgAt w g size first ns.length ns lost) (hn : -9223372036854775808 ≤ n ∧ n ≤ 9223372036854775807) :
    Calls Tryz.prog 31 #[.pointer (some ⟨g, 0, none⟩), .int .i64 n] w (DropOf g size ns lost (min n.toNat ns.length) w) := by
  have H := Lib.hid (ring_upTo w g size first ns.length ns lost n h hn)
  have hs := h.hs
  have hf := h.hf
  have hN := h.hn
  obtain ⟨m, hm⟩ : ∃ m, min n.toNat ns.length = m := ⟨_, rfl⟩
  have hml : m ≤ ns.length := by omega
  rw [hm] at H ⊢
  clear hm hn
  have HH := fun w' (k : Grew w w') => Lib.hid (h.grew k)
  have HP : ∀ w', Grew w w' → Hid (Calls Tryz.prog 32 #[.pointer (some ⟨g, 0, none⟩)] w' (PlacesOf first size w')) := fun w' k => Lib.hid (ring_places w' g size first ns.length ns lost (h.grew k))
  have HQ := fun (w' : World) (p q : Addr) hp hq => Lib.hid (ring_places1 w' first size m p q hp hq (by omega) (by omega) hs)
  have HF : ∀ w', Grew w w' → Hid (DropOf g size ns lost m w (.returned (.int .i64 (m : Nat))) ((w'.setCell ⟨g, 4097, none⟩ (.int .i64 ((first + m) % size : Nat))).setCell ⟨g, 4098, none⟩ (.int .i64 ((ns.length : Int) - m)))) := fun w' k =>
    ⟨(first + m) % size, rfl, progAt_drop (h.grew k) m hml, Far.setCell (F := fun k => k = g) (Far.setCell (F := fun k => k = g) (Far.of_grew k) (p := ⟨g, 4097, none⟩) rfl _) (p := ⟨g, 4098, none⟩) rfl _⟩
  rcases Nat.eq_zero_or_pos m with h0 | h0
  · subst h0
    clear HF HP HQ
    go_enter Tryz.func31, Tryz.ntmps31
    go_wp2_with fail
    refine H.out.mono ?_
    rintro e w1 ⟨rfl, g1⟩
    go_wp2_with fail
    go_ret
    exact ⟨first, rfl, by rw [List.drop_zero]; exact h.grew g1, Far.of_grew g1⟩
  · have z0 : ¬ (m : Int) = 0 := by omega
    generalize (first + m) % size = f' at *
    clear h
    go_enter Tryz.func31, Tryz.ntmps31
    go_wp2_with fail
    refine H.out.mono ?_
    rintro e w1 ⟨rfl, g1⟩
    go_wp2_with fail
    refine (HP _ g1).out.mono ?_
    rintro e w2 ⟨a, b, rfl, ha, hb, q1, q2, g2⟩
    go_wp2_with fail
    refine (HQ _ _ _ q1 q2).out.mono ?_
    rintro e w3 ⟨rfl, g3⟩
    have G := (g1.trans g2).trans g3
    have PP := HH _ G
    have c2 := PP.out.c2
    have c3 := PP.out.c3
    have f2 := PP.out.frozen 4097
    have f3 := PP.out.frozen 4098
    have HF1 := HF _ G
    clear HH HP HQ HF PP H ha hb q1 q2 g1 g2 g3
    generalize ns.length = N at *
    go_wp2_with fail
    go_ret
    exact HF1.out

/-- The first k bytes are told, the others are still 0. -/
def toldOf (ns : List Nat) (m k : Nat) : List Nat := ns.take k ++ List.replicate (m - k) 0
theorem toldOf_zero (ns : List Nat) (m : Nat) : toldOf ns m 0 = List.replicate m 0 := by simp [toldOf]
theorem toldOf_length (ns : List Nat) (m k : Nat) (hk : k ≤ m) (hm : m ≤ ns.length) : (toldOf ns m k).length = m := by simp [toldOf]; omega
theorem toldOf_set (ns : List Nat) (m k : Nat) (hk : k < m) (hm : m ≤ ns.length) : (toldOf ns m k).set k (wd ns k) = toldOf ns m (k + 1) := by
  have hl : (ns.take k).length = k := by rw [List.length_take]; omega
  have ht : ns.take (k + 1) = ns.take k ++ [wd ns k] := by rw [List.take_add_one, wd_lt (by omega), List.getElem?_eq_getElem (by omega)]; rfl
  unfold toldOf
  rw [List.set_append_right _ _ (by omega), hl, Nat.sub_self, show m - k = (m - (k + 1)) + 1 by omega, List.replicate_succ, List.set_cons_zero, ht, List.append_assoc]
  rfl
theorem toldOf_full (ns : List Nat) (m : Nat) : toldOf ns m m = ns.take m := by simp [toldOf]
theorem own_zeros {w : World} {B : Nat} {v : Value} {m : Nat} (h : w.ownsRow B 5 1 v m (madeCells (Value.int .u8 0).cells (m * 1)).toList) : Own B 5 .u8 w v (List.replicate m 0) := by
  unfold Own
  rw [List.length_replicate, show cellsOf .u8 (List.replicate m 0) = (madeCells (Value.int .u8 0).cells (m * 1)).toList from ?_]
  · exact h
  · apply List.ext_getElem?
    intro i
    simp [madeCells, cellsOf, Value.cells, Nat.mod_one, List.getElem?_replicate]
    split <;> simp_all
theorem own_cellP {w : World} {B g m c i : Nat} {ns : List Nat} (h : Own B 5 .u8 w (.slice (some ⟨g, 0, none⟩) m c) ns) (hi : i < ns.length) : (∃ x : Nat, w.cell? ⟨g, i, none⟩ = some (.int .u8 x)) ∧ w.frozen? ⟨g, i, none⟩ = false := by
  obtain ⟨h1, h2⟩ := h
  rcases h2 with ⟨e, _⟩ | ⟨g', cap, cur, e, hb, hh, hn, hm, hs, hc⟩
  · cases e
  · cases e
    refine ⟨⟨wd ns i, ?_⟩, by simp [World.frozen?, hh]⟩
    rw [cell_of_row w g i cur _ (0, 0) hh]
    have : (cur.toList.take (ns.length * 1))[i]? = cur[i]? := by rw [List.getElem?_take, if_pos (by omega), Array.getElem?_toList]
    rw [← this, hc]
    simp [cellsOf, hi, wd_lt hi]

/- The program's ring: bytes laid behind; what all its calls tell. -/
theorem mod_once (a s : Nat) (h : a < 2 * s) : a % s = if a < s then a else a - s := by
  split
  · exact Nat.mod_eq_of_lt (by assumption)
  · rw [Nat.mod_eq_sub_mod (by omega), Nat.mod_eq_of_lt (by omega)]
theorem place_ne {f s i j : Nat} (hf : f < s) (hi : i < s) (hj : j < s) (h : i ≠ j) : (f + i) % s ≠ (f + j) % s := by
  rw [mod_once _ _ (by omega), mod_once _ _ (by omega)]
  split <;> split <;> omega
theorem bytes_snoc {ns : List Nat} {x : Nat} (h : Bytes ns) (hx : x < 256) : Bytes (ns ++ [x]) := fun i => by
  rw [wd_snoc]
  split
  · exact h i
  · split <;> omega
theorem bytes_drop {ns : List Nat} (h : Bytes ns) (n : Nat) : Bytes (ns.drop n) := fun i => by rw [wd_drop]; exact h _

/-- One byte more is laid behind the others. -/
theorem progAt_lay {w : World} {g size first held lost : Nat} {ns : List Nat} (h : ProgAt w g size first held ns lost) (hl : ns.length < size) (x : Nat) (hx : x < 256) :
    ProgAt (w.setCell ⟨g, (first + ns.length) % size, none⟩ (.int .u8 (x : Nat))) g size first held (ns ++ [x]) lost := by
  have hs := h.hs
  have hlt : (first + ns.length) % size < size := Nat.mod_lt _ (by omega)
  have ho : ∀ j, 4096 ≤ j → (w.setCell ⟨g, (first + ns.length) % size, none⟩ (.int .u8 (x : Nat))).cell? ⟨g, j, none⟩ = w.cell? ⟨g, j, none⟩ := fun j hj => World.cell?_setCell_other _ _ _ _ (addr_ne (by omega))
  obtain ⟨u, hu⟩ := h.there ((first + ns.length) % size) (by omega)
  refine ⟨by simpa [World.setCell] using h.lt, hs, h.hf, by simp; omega, h.hh, bytes_snoc h.hb hx, (ho _ (by omega)).trans h.c1, (ho _ (by omega)).trans h.c2, (ho _ (by omega)).trans h.c3, (ho _ (by omega)).trans h.c4, fun i hi => ?_, ?_⟩
  · rw [List.length_append, List.length_singleton] at hi
    rw [wd_snoc]
    by_cases e : i = ns.length
    · subst e
      rw [if_neg (by omega), if_pos rfl]
      exact World.cell?_setCell_same _ _ _ hu
    · rw [if_pos (by omega), World.cell?_setCell_other _ _ _ _ (addr_ne (place_ne h.hf hl (by omega) (Ne.symm e)))]
      exact h.cs i (by omega)
  · obtain ⟨C, t, a, b, c⟩ := h.wh
    exact whole_set a b c _ _ rfl
/-- How many it holds, and how many were lost, are written behind the bytes. -/
theorem progAt_end {w : World} {g size first held lost : Nat} {ns : List Nat} (h : ProgAt w g size first held ns lost) (x y : Int) (lost' : Nat) (hx : x = (ns.length : Nat)) (hy : y = (lost' : Nat)) :
    ProgAt ((w.setCell ⟨g, 4098, none⟩ (.int .i64 x)).setCell ⟨g, 4099, none⟩ (.int .i64 y)) g size first ns.length ns lost' := by
  subst hx hy
  have ho : ∀ j (u v : Value), j ≠ 4098 → j ≠ 4099 → ((w.setCell ⟨g, 4098, none⟩ u).setCell ⟨g, 4099, none⟩ v).cell? ⟨g, j, none⟩ = w.cell? ⟨g, j, none⟩ := fun j u v h1 h2 => by
    rw [World.cell?_setCell_other _ _ _ _ (addr_ne (Ne.symm h2)), World.cell?_setCell_other _ _ _ _ (addr_ne (Ne.symm h1))]
  have hs := h.hs
  refine ⟨by simpa [World.setCell] using h.lt, hs, h.hf, h.hn, h.hn, h.hb, ?_, ?_, ?_, ?_, fun i hi => ?_, ?_⟩
  · rw [ho _ _ _ (by omega) (by omega)]; exact h.c1
  · rw [ho _ _ _ (by omega) (by omega)]; exact h.c2
  · rw [World.cell?_setCell_other _ _ _ _ (addr_ne (by omega))]; exact World.cell?_setCell_same _ _ _ h.c3
  · exact World.cell?_setCell_same _ _ _ (by rw [World.cell?_setCell_other _ _ _ _ (addr_ne (by omega))]; exact h.c4)
  · have hl2 : (first + i) % size < size := Nat.mod_lt _ (by omega)
    rw [ho _ _ _ (by omega) (by omega)]
    exact h.cs i hi
  · obtain ⟨C, t, a, b, c⟩ := h.wh
    obtain ⟨C', t', a', b', c'⟩ := whole_set a b c 4098 (.int .i64 (ns.length : Nat)) rfl
    exact whole_set a' b' c' 4099 _ rfl

theorem put_list (size : Nat) (ns xs : List Nat) (h : ns.length ≤ size) : ns.drop (min (ns.length + xs.length - size) ns.length) ++ xs.drop (xs.length - size) = ringPut size ns xs := by
  unfold ringPut ringOver
  rw [List.drop_append]
  by_cases hc : ns.length + xs.length - size ≤ ns.length
  · rw [Nat.min_eq_left hc, show xs.length - size = ns.length + xs.length - size - ns.length by omega]
  · rw [Nat.min_eq_right (by omega), List.drop_of_length_le (Nat.le_refl _), List.drop_of_length_le (i := ns.length + xs.length - size) (by omega), show xs.length - size = ns.length + xs.length - size - ns.length by omega]
theorem Row.farE {F : Nat → Prop} {w w' : World} {k : IntKind} {v : Value} {ns : List Nat} (h : Row k w v ns) (g : Far F w w') (hF : 0 < ns.length → ∀ b, v.ownBlock = some b → ¬ F b) : Row k w' v ns := by
  by_cases hn : 0 < ns.length
  · exact h.far g (hF hn)
  · obtain ⟨A, cap, rfl, hc, hr⟩ := h
    exact ⟨A, cap, rfl, hc, fun h => absurd h hn⟩
theorem take_one (ms : List Nat) (j : Nat) (hj : j < ms.length) : ms.take (j + 1) = ms.take j ++ [wd ms j] := by rw [List.take_add_one, wd_lt hj, List.getElem?_eq_getElem hj]; rfl

/-- What is left of a row that is cut at its head, as the walk meets it. -/
def CutRow (w : World) (A : Option Addr) (m c : Nat) (xs : List Nat) (k : Nat) (bw : Value) : Prop :=
  ∃ A' c', bw = .slice A' (m - k) c' ∧ Row .u8 w bw (xs.drop k) ∧ (∀ j, bw.ownBlock = some j → (Value.slice A m c).ownBlock = some j)
theorem cutRow_none {w : World} {A : Option Addr} {m c : Nat} {xs : List Nat} (h : Row .u8 w (.slice A m c) xs) (k : Nat) (hk : k = 0) (m' c' : Nat) (hm : m' = m) (hc : c' = c) : CutRow w A m c xs k (.slice A m' c') := by
  subst hk hm hc
  exact ⟨A, c', rfl, by rw [List.drop_zero]; exact h, fun j hj => hj⟩
theorem cutRow_map {w : World} {A : Option Addr} {m c : Nat} {xs : List Nat} (h : Row .u8 w (.slice A m c) xs) (k : Nat) (hk : k ≤ xs.length) (hne : c ≠ k) : CutRow w A m c xs k (.slice (A.map fun x => x.add k) (m - k) (c - k)) :=
  ⟨_, _, rfl, h.cutO k hk hne, fun j hj => by rw [ownBlock_map A k (m - k) (c - k) m c] at hj; exact hj⟩

def PutOf (g size : Nat) (ns xs : List Nat) (lost : Nat) (w : World) (e : Ending) (w' : World) : Prop :=
  ∃ first', e = .returned (.int .i64 (ringOver size ns xs : Nat)) ∧ ProgAt w' g size first' (ringPut size ns xs).length (ringPut size ns xs) (lost + ringOver size ns xs) ∧ Far (fun k => k = g) w w'

set_option maxRecDepth 100000 in
set_option maxHeartbeats 2000000 in
theorem ring_Put (w : World) (g size first : Nat) (ns : List Nat) (lost : Nat) (bv : Value) (xs : List Nat) (h : ProgAt w g size first ns.length ns lost) (hR : Row .u8 w bv xs) (hB : Bytes xs) (hx : xs.length ≤ 20000) (hl : lost ≤ 1000000000) (hne : 0 < xs.length → ∀ k, bv.ownBlock = some k → k ≠ g) :
    Calls Tryz.prog 16 #[.pointer (some ⟨g, 0, none⟩), bv] w (PutOf g size ns xs lost w) := by
  have H := Lib.hid (ring_isMade w g size first ns.length ns lost h)
  have hs := h.hs
  have hN := h.hn
  have HH := fun w' (k : Grew w w') => Lib.hid (h.grew k)
  have HD := fun w' (k : Grew w w') => Lib.hid (ring_Drop w' g size first ns lost (ringOver size ns xs : Nat) (h.grew k) (by unfold ringOver; omega))
  have HLI := Lib.hid (put_list size ns xs hN)
  obtain ⟨A, c, rfl, hc⟩ := hR.form
  have HR := Lib.hid hR
  have HB := Lib.hid (bytes_drop hB (xs.length - size))
  have HNE := Lib.hid hne
  obtain ⟨ov, hov⟩ : ∃ ov, ringOver size ns xs = ov := ⟨_, rfl⟩
  have hov2 : ns.length + xs.length - size = ov := hov
  have c1 := h.c1
  have c3 := h.c3
  clear h hR hB hne
  unfold PutOf
  rw [hov] at HD ⊢
  rw [hov2] at HLI
  clear hov
  go_enter Tryz.func16, Tryz.ntmps16
  go_wp2_with fail
  refine H.out.mono ?_
  rintro e w1 ⟨rfl, g1⟩
  have P1 := HH _ g1
  have d1 := P1.out.c1
  have d3 := P1.out.c3
  clear P1 c1 c3 H
  go_wp2_with fail
  go_region
  have E1 : (if (size : Int) - ns.length < xs.length then (xs.length : Int) - (size - ns.length) else 0) = (ov : Nat) := by split <;> omega
  rw [E1]
  have G := g1.drew
  clear E1 g1 d1 d3
  have d1 := (HH _ G).out.c1
  generalize w1.drew = w2 at *
  go_upto_region 4 with fail
  go_cut [1] (fun bw wx => CutRow w A xs.length c xs (xs.length - size) bw ∧ Grew w wx)
  case first =>
    go_wp2_with fail
    all_goals go_meet
    all_goals refine ⟨?_, G⟩
    all_goals first | (exact cutRow_map HR.out _ (by omega) (by omega)) | (exact cutRow_none HR.out _ (by omega) _ _ rfl (by rw [‹c = _›, if_neg (by omega)]; rfl)) | (exact cutRow_none HR.out _ (by omega) _ _ rfl rfl)
  case rest =>
    obtain ⟨⟨A', c', rfl, hR, hO⟩, g2⟩ := hcut
    obtain ⟨M, hM⟩ : ∃ M, (xs.drop (xs.length - size)).length = M := ⟨_, rfl⟩
    have hM2 : xs.length - (xs.length - size) = M := by rw [← hM, List.length_drop]
    rw [hM2]
    rw [hM2] at hR hO
    obtain ⟨N1, hN1⟩ : ∃ N1, (ns.drop (min ov ns.length)).length = N1 := ⟨_, rfl⟩
    have hN2 : ns.length - min ov ns.length = N1 := by rw [← hN1, List.length_drop]
    have hgM : 0 < M → ∀ j, (Value.slice A' M c').ownBlock = some j → j ≠ g := fun h0 j hj => HNE.out (by omega) j (hO j hj)
    have HG := Lib.hid hgM
    clear hgM hO HNE HR
    have HR := Lib.hid hR
    clear hR d1 G
    go_wp2_with fail
    refine (HD _ g2).out.mono ?_
    rintro e w3 ⟨f', rfl, hP, hF⟩
    simp only [Int.toNat_natCast, hN1] at hP
    have hf' := hP.hf
    have HP := Lib.hid hP
    have hR3 := Lib.hid ((HR.out.grew g2).farE hF (fun h0 j hj e => HG.out (by omega) j hj e))
    have HF := Lib.hid ((Far.of_grew g2).trans hF)
    have hpl := Lib.hid (ring_places w3 g size f' N1 (ns.drop (min ov ns.length)) lost hP)
    clear hP hF HD HH HR g2
    go_wp2_with fail
    refine hpl.out.mono ?_
    rintro e w4 ⟨a, b, rfl, ha, hb, q1, q2, g4⟩
    have hP4 := Lib.hid (HP.out.grew g4)
    have hR4 := Lib.hid (hR3.out.grew g4)
    have hF4 := Lib.hid (HF.out.trans (Far.of_grew g4))
    have hA := Lib.hid q1
    have hB4 := Lib.hid q2
    have hgl := HP.out.lt
    have hne : a ≠ g ∧ b ≠ g := ⟨by omega, by omega⟩
    generalize ns.drop (min ov ns.length) = ns1 at *
    generalize xs.drop (xs.length - size) = ms at *
    have hMs : M ≤ size := by omega
    have hNM : N1 + M ≤ size := by omega
    clear HP hR3 HF hpl ha hb q1 q2 g4 hM2 hN2
    go_wp2_with fail
    go_loopw [42] (fun i wr => ∃ j : Nat, j ≤ M ∧ i = .int .i64 (j : Nat) ∧ Hid (ProgAt wr g size f' N1 (ns1 ++ ms.take j) lost) ∧ Hid (wr.cell? ⟨a, 0, none⟩ = some (.int .i64 f')) ∧ Hid (wr.cell? ⟨b, 0, none⟩ = some (.int .i64 size)) ∧ Hid (Row .u8 wr (.slice A' M c') ms) ∧ Hid (Far (fun k => k = g) w wr)) (fun i _ => M - (intOf i).toNat)
    case atStart => exact ⟨0, by omega, rfl, by rw [List.take_zero, List.append_nil]; exact hP4, hA, hB4, hR4, hF4⟩
    case round =>
      clear hP4 hA hB4 hR4 hF4
      obtain ⟨j, hj, rfl, hP, hA, hB4, hR, hF⟩ := hrel
      by_cases hlt : j < M
      · obtain ⟨Ax, cx, e0, hcx, hr⟩ := hR.out
        simp only [Value.slice.injEq] at e0
        obtain ⟨rfl, -, rfl⟩ := e0
        obtain ⟨rb, ro, rfl, hrb, hcell⟩ := hr (by omega)
        have y0 := hcell j (by omega)
        have hx256 := HB.out j
        have hrg : rb ≠ g := HG.out (by omega) rb rfl
        have hlen : (ns1 ++ ms.take j).length = N1 + j := by rw [List.length_append, List.length_take, hN1, hM]; omega
        have hmm : (f' + (N1 + j)) % size < size := Nat.mod_lt _ (by omega)
        obtain ⟨u0, t0⟩ := hP.out.there ((f' + (N1 + j)) % size) (by omega)
        have f0 := hP.out.frozen ((f' + (N1 + j)) % size)
        have hgw := hP.out.lt
        have hal : a < wr.heap.size := World.block_lt_of_cell? wr ⟨a, 0, none⟩ hA.out
        have hbl : b < wr.heap.size := World.block_lt_of_cell? wr ⟨b, 0, none⟩ hB4.out
        have KS : ∀ w', Grew wr w' → Hid (w'.cell? ⟨g, 4098, none⟩ = some (.int .i64 (N1 : Nat))) := fun w' q => Lib.hid (hP.out.grew q).c3
        have KT : ∀ w', Grew wr w' → Hid ((w'.setCell ⟨g, (f' + (N1 + j)) % size, none⟩ (.int .u8 (wd ms j : Nat))).cell? ⟨g, 4098, none⟩ = some (.int .i64 (N1 : Nat))) := fun w' q => by
          show _ = _
          rw [World.cell?_setCell_other _ _ _ _ (addr_ne (by omega))]
          exact (KS w' q).out
        have KX : ∀ w', Grew wr w' → Hid (w'.cell? ⟨g, (f' + (N1 + j)) % size, none⟩ = some u0 ∧ w'.frozen? ⟨g, (f' + (N1 + j)) % size, none⟩ = false) := fun w' q =>
          Lib.hid ⟨(q.cell (p := ⟨g, _, none⟩) hgw).trans t0, (q.frozen (p := ⟨g, _, none⟩) hgw).trans f0⟩
        have HSET : ∀ w', Grew wr w' → Hid (Hid (ProgAt (w'.setCell ⟨g, (f' + (N1 + j)) % size, none⟩ (.int .u8 (wd ms j : Nat))) g size f' N1 (ns1 ++ ms.take (j + 1)) lost) ∧ Hid ((w'.setCell ⟨g, (f' + (N1 + j)) % size, none⟩ (.int .u8 (wd ms j : Nat))).cell? ⟨a, 0, none⟩ = some (.int .i64 f')) ∧ Hid ((w'.setCell ⟨g, (f' + (N1 + j)) % size, none⟩ (.int .u8 (wd ms j : Nat))).cell? ⟨b, 0, none⟩ = some (.int .i64 size)) ∧ Hid (Row .u8 (w'.setCell ⟨g, (f' + (N1 + j)) % size, none⟩ (.int .u8 (wd ms j : Nat))) (.slice (some ⟨rb, ro, none⟩) M c') ms) ∧ Hid (Far (fun k => k = g) w (w'.setCell ⟨g, (f' + (N1 + j)) % size, none⟩ (.int .u8 (wd ms j : Nat))))) := fun w' q => by
          refine ⟨?_, ?_, ?_, ?_, Far.setCell (F := fun k => k = g) (hF.out.trans (Far.of_grew q)) (p := ⟨g, _, none⟩) rfl _⟩
          · have := progAt_lay (hP.out.grew q) (by omega) (wd ms j) hx256
            rw [hlen, List.append_assoc, ← take_one ms j (by omega)] at this
            exact this
          · show _ = _
            rw [World.cell?_setCell_other _ _ _ _ (fun e => hne.1 (by injection e with e1; exact e1.symm))]
            exact (q.cell (p := ⟨a, 0, none⟩) hal).trans hA.out
          · show _ = _
            rw [World.cell?_setCell_other _ _ _ _ (fun e => hne.2 (by injection e with e1; exact e1.symm))]
            exact (q.cell (p := ⟨b, 0, none⟩) hbl).trans hB4.out
          · exact (hR.out.grew q).far (Far.one w' ⟨g, _, none⟩ _) (fun k hk e => by cases hk; exact hrg e)
        have HQ1 : ∀ w', Grew wr w' → Hid (Calls Tryz.prog 50 #[.int .i64 (IntKind.i64.wrap ((N1 : Int) + j)), .pointer (some ⟨a, 0, none⟩), .pointer (some ⟨b, 0, none⟩)] w' fun e w'' => e = .returned (.int .i64 (((f' + (N1 + j)) % size : Nat) : Int)) ∧ Grew w' w'') := fun w' q => by
          have := ring_places1 w' f' size (N1 + j) ⟨a, 0, none⟩ ⟨b, 0, none⟩ ((q.cell (p := ⟨a, 0, none⟩) hal).trans hA.out) ((q.cell (p := ⟨b, 0, none⟩) hbl).trans hB4.out) (by omega) (by omega) hs
          rw [show IntKind.i64.wrap ((N1 : Int) + j) = ((N1 + j : Nat) : Int) by rw [IntWalk.i64_in _ (by omega)]; omega]
          exact this
        clear hP hA hB4 hR hF t0 f0 hgw hal hbl hr hcell hcx HB HG HLI hgl hov2 hx hl hrg hx256 hlen hne
        generalize (f' + (N1 + j)) % size = mm at *
        generalize wd ms j = x at *
        have m0 : (0 : Int) ≤ mm := by omega
        have m1 : (mm : Int) < 4096 := by omega
        have k0 : (0 : Int) ≤ j := by omega
        have k1 : (j : Int) < M := by omega
        have G : Grew wr wr.drew := (Grew.refl wr).drew
        go_wp2_with fail
        go_region_held3 (fun w' => w'.cell? ⟨g, 4098, none⟩ = some (.int .i64 (N1 : Nat))) (first | exact (KS _ G).out | exact (KT _ G).out) ((go_at_call 50; refine (HQ1 _ G).out.mono ?_; rintro e w5 ⟨rfl, g5⟩; replace G := G.trans g5; clear g5; obtain ⟨t1, f1⟩ := (KX _ G).out))
        go_wp2_with fail
        obtain ⟨s1, s2, s3, s4, s5⟩ := (HSET _ G).out
        go_roundw
        case rel => exact ⟨j + 1, by omega, by simp, s1, s2, s3, s4, s5⟩
        case measure => simp [intOf]; omega
      · obtain rfl : j = M := by omega
        have d3 := hP.out.c3
        have d4 := hP.out.c4
        have e3 := hP.out.frozen 4098
        have e4 := hP.out.frozen 4099
        have hT : Hid (ns1 ++ ms.take j = ringPut size ns xs) := by show _ = _; rw [← HLI.out, ← hM, List.take_length]
        have hTl : (ringPut size ns xs).length = N1 + j := by rw [← HLI.out, List.length_append, hN1, hM]
        rw [hT.out] at hP
        have HE := fun x y hx hy => Lib.hid (progAt_end hP.out x y (lost + ov) hx hy)
        rw [hTl] at HE
        clear hP hA hB4 hR HLI HB HG
        go_wp2_with fail
        go_ret
        refine ⟨f', rfl, ?_, ?_⟩
        · rw [hTl]; exact (HE _ _ (by omega) (by omega)).out
        · exact Far.setCell (F := fun k => k = g) (Far.setCell (F := fun k => k = g) hF.out (p := ⟨g, 4098, none⟩) rfl _) (p := ⟨g, 4099, none⟩) rfl _
/- What the program's ring tells, as the laws ask it. -/
theorem ring_calls : RingCalls ProgR (fun _ => True) where
  keep := fun _ _ _ _ => trivial
  inv := fun w v F size ns lost ⟨g, first, _, _, h⟩ => ⟨h.hs, h.hn, h.hb⟩
  lt := fun w v F size ns lost b ⟨g, first, _, hF, h⟩ hb => by rw [(hF b).1 hb]; exact h.lt
  far := fun w w' v F G size ns lost ⟨g, first, e, hF, h⟩ k hk => ⟨g, first, e, hF, h.far k (hk g ((hF g).2 rfl))⟩
  new := fun size w h1 h2 _ => (ring_New size w ⟨h1, h2⟩).mono (by
    rintro e w' ⟨rfl, rfl⟩
    exact ⟨w.heap.size, fun k => k = w.heap.size, rfl, ⟨w.heap.size, 0, rfl, fun k => Iff.rfl, progAt_new w _ size ⟨h1, h2⟩⟩, fun b hb => by rw [hb]; exact Nat.le_refl _, (Grew.refl w).alloc _⟩)
  bad := fun size w hn hb _ => ring_bad size w hn hb
  put := by
    rintro w v F size ns lost b xs ⟨g, first, rfl, hF, h⟩ hR hB hx hl hne _
    refine (ring_Put w g size first ns lost b xs h hR hB hx hl (fun h0 k hk e => hne h0 k hk ((hF k).2 e))).mono ?_
    rintro e w' ⟨f', rfl, hP, hf⟩
    exact ⟨F, rfl, ⟨g, f', rfl, hF, hP⟩, fun b hb => .inl hb, hf.mono (fun k _ hk => (hF k).2 hk)⟩
  drop := by
    rintro w v F size ns lost n ⟨g, first, rfl, hF, h⟩ hn _
    refine (ring_Drop w g size first ns lost n h hn).mono ?_
    rintro e w' ⟨f', rfl, hP, hf⟩
    exact ⟨F, rfl, ⟨g, f', rfl, hF, hP⟩, fun b hb => .inl hb, hf.mono (fun k _ hk => (hF k).2 hk)⟩
  len := by rintro w v F size ns lost ⟨g, first, rfl, hF, h⟩ _; exact ring_Len w g size first _ ns lost h
  size := by rintro w v F size ns lost ⟨g, first, rfl, hF, h⟩ _; exact ring_Size w g size first _ ns lost h
  nput := fun w b xs _ _ => ring_noPut w b
  ndrop := by
    intro w n hn _
    have H := Lib.hid (ring_noUpTo w n hn)
    go_enter Tryz.func31, Tryz.ntmps31
    go_wp2_with fail
    refine H.out.mono ?_
    rintro e w1 ⟨rfl, g1⟩
    go_wp2_with fail
    go_ret
    exact ⟨rfl, g1⟩
  nlen := fun w _ => ring_noLen w
  nsize := fun w _ => ring_noSize w
  nat := fun w i hi _ => ring_noAt w i hi
  at_ := by
    rintro w v F size ns lost i ⟨g, first, rfl, hF, h⟩ hi _
    by_cases hc : 0 ≤ i ∧ i < ns.length
    · obtain ⟨k, rfl⟩ : ∃ k : Nat, i = k := ⟨i.toNat, by omega⟩
      have := ring_At w g size first ns lost k h (by omega)
      simp only [hc, and_self, if_true, decide_true, Int.toNat_natCast]
      exact this
    · have := ring_At_no w g size first _ ns lost i h hi (by omega)
      rw [if_neg hc, decide_eq_false hc]
      exact this
end Go.Proofs.YtlcmjedbdopglaaGreatDoor
