/-
  The program's ring: a new one, its copy, one byte, the first ones let go.
-/
import Derived.Test.YtkoklmecijejkaaRngX
namespace Go.Proofs.Ytkoklmecijejkaa
open Go.RowKit
set_option linter.unusedVariables false

theorem cell_alloc_last (w : World) (C : Array Value) (T : TypeId) (j : Nat) : (w.alloc (.cells C T)).cell? ⟨w.heap.size, j, none⟩ = C[j]? :=
  cell_of_row _ _ _ C T (0, 0) (heap_alloc_last w _)

theorem progAt_new (w : World) (T : TypeId) (n : Nat) (hn : 64 ≤ n ∧ n ≤ 4096) : ProgAt (w.alloc (.cells (ringCells n) T)) w.heap.size n 0 0 [] 0 := by
  refine ⟨by simp, hn, by omega, by simp, by omega, fun i => by simp [wd], ?_, ?_, ?_, ?_, by intro i hi; simp at hi, ⟨ringCells n, T, heap_alloc_last w _, ringCells_size n, ringCells_one n⟩⟩
  all_goals (rw [cell_alloc_last]; simp [ringCells])
theorem ProgAt.copy {w : World} {g size first held lost : Nat} {ns : List Nat} (h : ProgAt w g size first held ns lost) {C : Array Value} {t : TypeId} (a : w.heap[g]? = some (.cells C t (0, 0))) (b : C.size = 4100) (c : C.all (·.oneCell') = true) (T : TypeId) :
    ProgAt (w.alloc (.cells C T)) w.heap.size size first held ns lost := by
  have e : ∀ j, (w.alloc (.cells C T)).cell? ⟨w.heap.size, j, none⟩ = w.cell? ⟨g, j, none⟩ := fun j => by rw [cell_alloc_last, cell_of_row w g j C t (0, 0) a]
  exact ⟨by simp, h.hs, h.hf, h.hn, h.hh, h.hb, (e _).trans h.c1, (e _).trans h.c2, (e _).trans h.c3, (e _).trans h.c4, fun i hi => (e _).trans (h.cs i hi), ⟨C, T, heap_alloc_last w _, b, c⟩⟩

section
variable {P : Program} {ops : Array Oper} {rest : List Oper} {o : Oper} {a : Act} {w : World} {Q : Exit → Act → World → Prop}
/-- A variable of a great type, whose zero value is known. -/
theorem wpList_alloc_as (hg : o.guard = none) (t : TypeId) (ho : o.op = .alloc t) (C : Array Value) (hz : ∀ w, (zeroValue t).run P w = .ok (.agg C) w)
    (h : wpList P ops Q rest (a.put o.dst (.pointer (some ⟨w.heap.size, 0, none⟩))) (w.alloc (.cells C t))) : wpList P ops Q (o :: rest) a w :=
  wpList_plain hg fun K hK => by
    unfold Oper.wp execOp
    simp only [ho, Instr.alloc, Sem.run_bind, hz, Result.andThen_ok]
    exact hK _ _ h
theorem wpList_load_whole (hgd : o.guard = none) (ty : TypeId) (x : Operand) (ho : o.op = .load ty x) (b : Nat) (hx : a.eval x = .pointer (some ⟨b, 0, none⟩)) (C : Array Value) (t : TypeId) (d : TypeDesc) (hc : w.heap[b]? = some (.cells C t (0, 0)))
    (hu : P.underlying ty = some d) (hd : d.isRow = true) (hi : (P.info? ty).map (·.size) = some C.size) (h : wpList P ops Q rest (a.put o.dst (.agg C)) w) : wpList P ops Q (o :: rest) a w := by
  refine wpList_load_mid hgd ty x ho b 0 hx C.toList d (fun j v hv => ?_) hu hd (by simpa using hi) (by simpa using h)
  rw [Nat.zero_add, cell_of_row w b j C t (0, 0) hc]
  simpa using hv
theorem wpList_store_new (hgd : o.guard = none) (ty : TypeId) (x y : Operand) (ho : o.op = .store ty x y) (W : World) (C C0 : Array Value) (t : TypeId) (hw : w = W.alloc (.cells C0 t)) (hx : a.eval x = .pointer (some ⟨W.heap.size, 0, none⟩)) (hy : a.eval y = .agg C)
    (hi : (P.info? ty).map (·.size) = some C.size) (hs : C0.size = C.size) (h1 : C.all (·.oneCell') = true) (h : wpList P ops Q rest (a.put o.dst undef) (W.alloc (.cells C t))) : wpList P ops Q (o :: rest) a w := by
  subst hw
  exact wpList_plain hgd fun K hK => wp_store_row ty x y ho W.heap.size C hx hy t C0 (heap_alloc_last W _) hi hs h1 (by rw [World.setRow_alloc_new]; exact hK _ _ h)
end

theorem ring_zero : (∀ w, (zeroValue 53).run Try.prog w = .ok (.agg (ringCells 0)) w) ∧ (Try.prog.info? 53).map (·.size) = some 4100 := zero_of_info (by kernel_rfl)

set_option maxRecDepth 100000 in
set_option maxHeartbeats 1000000 in
theorem ring_Copy (w : World) (g size first held : Nat) (ns : List Nat) (lost : Nat) (h : ProgAt w g size first held ns lost) :
    Calls Try.prog 19 #[.pointer (some ⟨g, 0, none⟩)] w fun e w' => ∃ g', e = .returned (.pointer (some ⟨g', 0, none⟩)) ∧ w.heap.size ≤ g' ∧ ProgAt w' g' size first held ns lost ∧ Grew w w' := by
  have H := Lib.hid (ring_isMade w g size first held ns lost h)
  have HH := Lib.hid h
  have HZ := Lib.hid ring_zero.1
  have HI := Lib.hid ring_zero.2
  have HC := Lib.hid (ringCells_size 0)
  generalize ringCells 0 = C0 at *
  clear h
  go_enter Try.func19, Try.ntmps19
  go_wp2_with fail
  refine H.out.mono ?_
  rintro e w1 ⟨rfl, g1⟩
  have P1 := HH.out.grew g1
  obtain ⟨C, t, ha, hb, hc⟩ := P1.wh
  have HA := Lib.hid ha
  have HB := Lib.hid hb
  have HO := Lib.hid hc
  have HP := Lib.hid P1
  clear HH H P1 ha hb hc
  go_wp2_with (first | (refine wpList_load_whole rfl 53 _ rfl g rfl C t _ HA.out Try.underlying53 rfl (by rw [HI.out, HB.out]) ?_) | (refine wpList_alloc_as rfl 53 rfl C0 HZ.out ?_) | (refine wpList_store_new rfl 53 _ _ rfl w1 C C0 53 rfl rfl rfl (by rw [HI.out, HB.out]) (by rw [HC.out, HB.out]) HO.out ?_))
  go_ret
  exact ⟨_, rfl, g1.size, HP.out.copy HA.out HB.out HO.out _, g1.alloc _⟩

theorem ring_At_no (w : World) (g size first held : Nat) (ns : List Nat) (lost : Nat) (i : Int) (h : ProgAt w g size first held ns lost) (hi : -9223372036854775808 ≤ i ∧ i ≤ 9223372036854775807) (hno : i < 0 ∨ (held : Int) ≤ i) :
    Calls Try.prog 38 #[.pointer (some ⟨g, 0, none⟩), .int .i64 i] w fun e w' => e = .returned (.tuple #[.int .u8 0, .bool false]) ∧ Grew w w' := by
  have H := Lib.hid (ring_Len w g size first held ns lost h)
  clear h
  rcases (show i < 0 ∨ (0 ≤ i ∧ (held : Int) ≤ i) by omega) with hc | hc
  · go_enter Try.func38, Try.ntmps38
    go_wp2_with fail
    go_ret2
    exact ⟨rfl, Grew.refl _⟩
  · go_enter Try.func38, Try.ntmps38
    go_wp2_with fail
    refine H.out.mono ?_
    rintro e w1 ⟨rfl, g1⟩
    go_wp2_with fail
    go_ret2
    exact ⟨rfl, g1⟩
theorem ring_noAt (w : World) (i : Int) (hi : -9223372036854775808 ≤ i ∧ i ≤ 9223372036854775807) :
    Calls Try.prog 38 #[.pointer none, .int .i64 i] w fun e w' => e = .returned (.tuple #[.int .u8 0, .bool false]) ∧ Grew w w' := by
  have H := fun w => Lib.hid (ring_noLen w)
  by_cases hc : i < 0
  · go_enter Try.func38, Try.ntmps38
    go_wp2_with fail
    go_ret2
    exact ⟨rfl, Grew.refl _⟩
  · have hc' : 0 ≤ i := by omega
    clear hc
    go_enter Try.func38, Try.ntmps38
    go_wp2_with fail
    refine (H _).out.mono ?_
    rintro e w1 ⟨rfl, g1⟩
    go_wp2_with fail
    go_ret2
    exact ⟨rfl, g1⟩

set_option maxRecDepth 100000 in
set_option maxHeartbeats 1000000 in
theorem ring_At (w : World) (g size first : Nat) (ns : List Nat) (lost i : Nat) (h : ProgAt w g size first ns.length ns lost) (hi : i < ns.length) :
    Calls Try.prog 38 #[.pointer (some ⟨g, 0, none⟩), .int .i64 i] w fun e w' => e = .returned (.tuple #[.int .u8 (wd ns i : Nat), .bool true]) ∧ Grew w w' := by
  have H := Lib.hid (ring_Len w g size first ns.length ns lost h)
  have hs := h.hs
  have hf := h.hf
  have hn := h.hn
  have HP : ∀ w', Grew w w' → Hid (Calls Try.prog 23 #[.pointer (some ⟨g, 0, none⟩)] w' (PlacesOf first size w')) := fun w' k => Lib.hid (ring_places w' g size first ns.length ns lost (h.grew k))
  have HQ := fun (w' : World) (p q : Addr) hp hq => Lib.hid (ring_places1 w' first size i p q hp hq (by omega) (by omega) hs)
  have hlt : (first + i) % size < size := Nat.mod_lt _ (by omega)
  have KC : ∀ w', Grew w w' → Hid (w'.cell? ⟨g, (first + i) % size, none⟩ = some (.int .u8 (wd ns i : Nat))) := fun w' k => Lib.hid ((h.grew k).cs i hi)
  generalize (first + i) % size = m at *
  generalize wd ns i = x at *
  have m0 : (0 : Int) ≤ m := by omega
  have m1 : (m : Int) < 4096 := by omega
  have i0 : (0 : Int) ≤ i := by omega
  have i1 : (i : Int) < ns.length := by omega
  generalize ns.length = N at *
  clear h hs hf hn hlt hi
  go_enter Try.func38, Try.ntmps38
  go_wp2_with fail
  refine H.out.mono ?_
  rintro e w1 ⟨rfl, g1⟩
  have G := g1.drew
  clear H g1
  go_wp2_with fail
  go_region_held3 (fun w' => w'.cell? ⟨g, m, none⟩ = some (.int .u8 x)) (exact (KC _ G).out) (first | (go_at_call 23; refine (HP _ G).out.mono ?_; rintro e w2 ⟨a, b, rfl, ha, hb, q1, q2, g2⟩; replace G := G.trans g2; clear g2 ha hb) | (go_at_call 36; refine (HQ _ _ _ q1 q2).out.mono ?_; rintro e w3 ⟨rfl, g3⟩; replace G := G.trans g3; clear g3))
  go_wp2_with fail
  go_ret2
  exact ⟨rfl, G⟩
end Go.Proofs.Ytkoklmecijejkaa
