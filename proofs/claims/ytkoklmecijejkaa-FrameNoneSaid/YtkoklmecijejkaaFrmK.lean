/-
  The page's examples of frames.
-/
import Derived.Test.YtkoklmecijejkaaFrmL
namespace Go.Proofs.Ytkoklmecijejkaa
open Go.RowKit
set_option linter.unusedVariables false

def ex1 : List Nat := [36, 65, 42, 52, 49, 13, 10]
def ex2 : List Nat := [120, 181, 98, 1, 2, 0, 0, 3, 10]
def ex3 : List Nat := [36, 65, 42, 52, 50, 13, 10]
def ex4 : List Nat := [36, 65]
theorem ex_next : nextOf 64 ex1 = (some (1, [65]), 0, []) ∧ nextOf 64 ex2 = (some (2, [1, 2]), 1, []) ∧ nextOf 64 ex3 = (none, 7, []) ∧ nextOf 64 ex4 = (none, 0, [36, 65]) := by decide +kernel
theorem ex_bytes : Bytes ex1 ∧ Bytes ex2 ∧ Bytes ex3 ∧ Bytes ex4 := ⟨Bytes.of_mem (by decide), Bytes.of_mem (by decide), Bytes.of_mem (by decide), Bytes.of_mem (by decide)⟩
theorem strA : strOf [65] = { data := #[65] } := by decide +kernel

theorem row_lit (w : World) (E : TypeId) (fr : Nat × Nat) (ns : List Nat) : Row .u8 (w.alloc (.cells (ns.map fun n => Value.int .u8 (n : Nat)).toArray E fr)) (.slice (some ⟨w.heap.size, 0, none⟩) ns.length ns.length) ns :=
  Row.of_block (heap_alloc_new _ _) (fun i hi => by simp [wd, hi]) _ (Nat.le_refl _)
theorem row_ex1 (w : World) (E : TypeId) (fr : Nat × Nat) (b : Nat) (hb : b = w.heap.size) : Row .u8 (w.alloc (.cells #[.int .u8 36, .int .u8 65, .int .u8 42, .int .u8 52, .int .u8 49, .int .u8 13, .int .u8 10] E fr)) (.slice (some ⟨b, 0, none⟩) 7 7) ex1 := by
  subst hb
  have := row_lit w E fr ex1
  simpa [ex1] using this
theorem row_ex2 (w : World) (E : TypeId) (fr : Nat × Nat) (b : Nat) (hb : b = w.heap.size) : Row .u8 (w.alloc (.cells #[.int .u8 120, .int .u8 181, .int .u8 98, .int .u8 1, .int .u8 2, .int .u8 0, .int .u8 0, .int .u8 3, .int .u8 10] E fr)) (.slice (some ⟨b, 0, none⟩) 9 9) ex2 := by
  subst hb
  have := row_lit w E fr ex2
  simpa [ex2] using this
theorem row_ex3 (w : World) (E : TypeId) (fr : Nat × Nat) (b : Nat) (hb : b = w.heap.size) : Row .u8 (w.alloc (.cells #[.int .u8 36, .int .u8 65, .int .u8 42, .int .u8 52, .int .u8 50, .int .u8 13, .int .u8 10] E fr)) (.slice (some ⟨b, 0, none⟩) 7 7) ex3 := by
  subst hb
  have := row_lit w E fr ex3
  simpa [ex3] using this
theorem row_ex4 (w : World) (E : TypeId) (fr : Nat × Nat) (b : Nat) (hb : b = w.heap.size) : Row .u8 (w.alloc (.cells #[.int .u8 36, .int .u8 65] E fr)) (.slice (some ⟨b, 0, none⟩) 2 2) ex4 := by
  subst hb
  have := row_lit w E fr ex4
  simpa [ex4] using this
/-- A frame's variable keeps its frame. -/
theorem boxed_keeps {w1 w' : World} {E : TypeId} {x y : Value} (g : Grew (w1.alloc (.cells #[x, y] E)) w') : w'.cell? ⟨w1.heap.size, 0, none⟩ = some x ∧ w'.cell? ⟨w1.heap.size, 1, none⟩ = some y :=
  ⟨(g.cell (p := ⟨w1.heap.size, 0, none⟩) (by simp)).trans (by simp [go_sem]), (g.cell (p := ⟨w1.heap.size, 1, none⟩) (by simp)).trans (by simp [go_sem])⟩

set_option maxRecDepth 100000 in
set_option maxHeartbeats 2000000 in
theorem frame_known {R : World → Value → (Nat → Prop) → Nat → List Nat → Nat → Prop} {T : World → Prop} (P : RingCalls R T) (Q : FrameCalls R T) (w : World) (ht : T w) : Calls Try.prog 8 #[] w fun e w' => e = .returned (.bool true) ∧ Grew w w' := by
  have K := Lib.hid P.keep
  obtain ⟨n1, n2, n3, n4⟩ := ex_next
  obtain ⟨b1, b2, b3, b4⟩ := ex_bytes
  have H1 : ∀ v w', Row .u8 w' v ex1 → T w' → Hid (Calls Try.prog 20 #[v] w' fun e w'' => ∃ A c, e = .returned (.tuple #[.agg #[.int .u8 1, .slice A 1 c], .bool true, .int .i64 0]) ∧ Row .u8 w'' (.slice A 1 c) [65] ∧ Grew w' w'') := fun v w' hr t => by
    have h := law08_of P Q v ex1 w' hr b1 (by decide) t
    unfold OfTells at h
    rw [n1] at h
    exact h
  have H2 : ∀ v w', Row .u8 w' v ex2 → T w' → Hid (Calls Try.prog 20 #[v] w' fun e w'' => ∃ A c, e = .returned (.tuple #[.agg #[.int .u8 2, .slice A 2 c], .bool true, .int .i64 1]) ∧ Row .u8 w'' (.slice A 2 c) [1, 2] ∧ Grew w' w'') := fun v w' hr t => by
    have h := law08_of P Q v ex2 w' hr b2 (by decide) t
    unfold OfTells at h
    rw [n2] at h
    exact h
  have H3 : ∀ v w', Row .u8 w' v ex3 → T w' → Hid (Calls Try.prog 20 #[v] w' fun e w'' => ∃ A c, e = .returned (.tuple #[.agg #[.int .u8 0, .slice A 0 c], .bool false, .int .i64 7]) ∧ Row .u8 w'' (.slice A 0 c) [] ∧ Grew w' w'') := fun v w' hr t => by
    have h := law08_of P Q v ex3 w' hr b3 (by decide) t
    unfold OfTells at h
    rw [n3] at h
    exact h
  have H4 : ∀ v w', Row .u8 w' v ex4 → T w' → Hid (Calls Try.prog 20 #[v] w' fun e w'' => ∃ A c, e = .returned (.tuple #[.agg #[.int .u8 0, .slice A 0 c], .bool false, .int .i64 0]) ∧ Row .u8 w'' (.slice A 0 c) [] ∧ Grew w' w'') := fun v w' hr t => by
    have h := law08_of P Q v ex4 w' hr b4 (by decide) t
    unfold OfTells at h
    rw [n4] at h
    exact h
  clear n1 n2 n3 n4 b1 b2 b3 b4
  have kc := fun (w : World) (C : Array Value) (n c : Nat) => Lib.run_convert_bytes_const (P := Try.prog) w 23 5 C n c Try.underlying23 Try.underlying5
  have kd := fun (w : World) (o : Obj) (C : Array Value) (n c : Nat) => Lib.run_convert_bytes_const (P := Try.prog) (w.alloc o) 23 5 C n c Try.underlying23 Try.underlying5
  simp only [World.size_alloc] at kd
  go_enter Try.func8, Try.ntmps8
  go_wp2_with fail
  refine (H1 _ _ (row_ex1 w _ _ _ rfl) (K.out _ _ ht ((Grew.refl w).alloc _))).out.mono ?_
  rintro e w1 ⟨A1, c1, rfl, r1, g1⟩
  have G1 := Lib.hid (Grew.trans ((Grew.refl w).alloc _) g1)
  have R1 := Lib.hid r1
  clear r1 g1 H1
  go_wp2_with fail
  refine (H2 _ _ (row_ex2 (w1.alloc (.cells #[.int .u8 1, .slice A1 1 c1] 34)) _ _ (w1.heap.size + 1) (by simp)) (K.out _ _ ht ((G1.out.alloc _).alloc _))).out.mono ?_
  rintro e w2 ⟨A2, c2, rfl, r2, g2⟩
  have G2 := Lib.hid (Grew.trans ((Grew.refl (w1.alloc (.cells #[.int .u8 1, .slice A1 1 c1] 34))).alloc _) g2)
  have R2 := Lib.hid r2
  clear r2 g2 H2
  go_wp2_with fail
  refine (H3 _ _ (row_ex3 (w2.alloc (.cells #[.int .u8 2, .slice A2 2 c2] 34)) _ _ (w2.heap.size + 1) (by simp)) (K.out _ _ ht (((G1.out.alloc _).trans G2.out |>.alloc _).alloc _))).out.mono ?_
  rintro e w3 ⟨A3, c3, rfl, r3, g3⟩
  have G3 := Lib.hid (Grew.trans ((Grew.refl (w2.alloc (.cells #[.int .u8 2, .slice A2 2 c2] 34))).alloc _) g3)
  clear r3 g3 H3
  go_wp2_with fail
  refine (H4 _ _ (row_ex4 (w3.alloc (.cells #[.int .u8 0, .slice A3 0 c3] 34)) _ _ (w3.heap.size + 1) (by simp)) (K.out _ _ ht (((((G1.out.alloc _).trans G2.out |>.alloc _).trans G3.out).alloc _).alloc _))).out.mono ?_
  rintro e w4 ⟨A4, c4, rfl, r4, g4⟩
  have G4 := Lib.hid (Grew.trans (((Grew.refl w3).alloc (.cells #[.int .u8 0, .slice A3 0 c3] 34)).alloc _) g4)
  clear r4 g4 H4
  have GB := ((Grew.refl (w2.alloc (.cells #[.int .u8 2, .slice A2 2 c2] 34))).trans G3.out).trans G4.out |>.alloc (.cells #[.int .u8 0, .slice A4 0 c4] 34)
  have GA := ((Grew.refl (w1.alloc (.cells #[.int .u8 1, .slice A1 1 c1] 34))).trans G2.out).trans (((Grew.refl w2).alloc (.cells #[.int .u8 2, .slice A2 2 c2] 34)).trans GB)
  obtain ⟨x0, x1⟩ := boxed_keeps GA
  obtain ⟨y0, y1⟩ := boxed_keeps GB
  have q1 := Row.string _ ((R1.out.grew ((Grew.refl w1).alloc _)).grew GA) 23 5 Try.underlying23 Try.underlying5 9 Try.underlying9
  rw [strA] at q1
  have GT := Lib.hid ((G1.out.alloc _).trans GA)
  clear GA GB kc kd
  go_wp2_with fail
  go_ret
  exact ⟨rfl, GT.out⟩
end Go.Proofs.Ytkoklmecijejkaa
