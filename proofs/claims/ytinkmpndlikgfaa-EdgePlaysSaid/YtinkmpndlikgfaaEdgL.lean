/-
  What the program's log of edges tells, as the laws ask it; the page's example.
-/
import Derived.Test.YtinkmpndlikgfaaEdgD
import Derived.Test.YtinkmpndlikgfaaEdrB
namespace Go.Proofs.Ytinkmpndlikgfaa
open Go.RowKit
set_option linter.unusedVariables false

/-- The program's log from the o-th cell on of block g holds the edges L. -/
def LogR (w : World) (g o : Nat) (L : List Int) : Prop := ∃ ks f n, LogAt w g o ks f n ∧ logL ks f n = L
section
variable {F : Nat → Prop} {w w' : World} {g o : Nat} {L : List Int}
theorem LogR.far (h : LogR w g o L) (k : Far F w w') (hg : ¬ F g) : LogR w' g o L := by
  obtain ⟨ks, f, n, a, b⟩ := h
  exact ⟨ks, f, n, a.far k hg, b⟩
theorem LogR.grew (h : LogR w g o L) (k : Grew w w') : LogR w' g o L := h.far (F := fun _ => False) (Far.of_grew k) (fun q => q)
theorem LogR.lt (h : LogR w g o L) : g < w.heap.size := by
  obtain ⟨ks, f, n, a, b⟩ := h
  exact a.lt
theorem LogR.len (h : LogR w g o L) : L.length ≤ 8 := by
  obtain ⟨ks, f, n, a, b⟩ := h
  rw [← b, logL_length]
  exact a.hn
end
theorem log_New (w : World) : Calls Try.prog 6 #[] w fun e w' => e = .returned (.pointer (some ⟨w.heap.size, 0, none⟩)) ∧ LogR w' w.heap.size 0 [] ∧ Grew w w' :=
  (edge_New w).mono fun _ _ ⟨a, b, c⟩ => ⟨a, ⟨_, _, _, b, rfl⟩, c⟩
theorem log_Copy (w : World) (g o : Nat) (L : List Int) (h : LogR w g o L) : Calls Try.prog 7 #[.pointer (some ⟨g, o, none⟩)] w fun e w' => e = .returned (.pointer (some ⟨w.heap.size, 0, none⟩)) ∧ LogR w' w.heap.size 0 L ∧ Grew w w' := by
  obtain ⟨ks, f, n, a, b⟩ := h
  exact (edge_Copy w g o ks f n a).mono fun _ _ ⟨x, y, z⟩ => ⟨x, ⟨_, _, _, y, b⟩, z⟩
theorem log_Add (w : World) (g o : Nat) (L : List Int) (c : Int) (h : LogR w g o L) (hc : -9223372036854775808 ≤ c ∧ c ≤ 9223372036854775807) :
    Calls Try.prog 8 #[.pointer (some ⟨g, o, none⟩), .int .i64 c] w fun e w' => e = .returned (.int .i64 (if c < lastE L then 2 else 0)) ∧ LogR w' g o (addE L c) ∧ Far (fun b => b = g) w w' := by
  obtain ⟨ks, f, n, a, rfl⟩ := h
  exact (edge_Add w g o ks f n c a hc).mono fun _ _ ⟨x, y, ks', f', n', z, u⟩ => ⟨x, ⟨_, _, _, z, u⟩, y⟩
theorem log_AddOk (w : World) (g o : Nat) (L : List Int) (c : Int) (h : LogR w g o L) (hc : -9223372036854775808 ≤ c ∧ c ≤ 9223372036854775807) (hn : ¬ c < lastE L) :
    Calls Try.prog 8 #[.pointer (some ⟨g, o, none⟩), .int .i64 c] w fun e w' => e = .returned (.int .i64 0) ∧ LogR w' g o (pushE L c) ∧ Far (fun b => b = g) w w' := by
  have := log_Add w g o L c h hc
  unfold addE at this
  rw [if_neg hn, if_neg hn] at this
  exact this
theorem log_AddNo (w : World) (g o : Nat) (L : List Int) (c : Int) (h : LogR w g o L) (hc : -9223372036854775808 ≤ c ∧ c ≤ 9223372036854775807) (hn : c < lastE L) :
    Calls Try.prog 8 #[.pointer (some ⟨g, o, none⟩), .int .i64 c] w fun e w' => e = .returned (.int .i64 2) ∧ LogR w' g o L ∧ Far (fun b => b = g) w w' := by
  have := log_Add w g o L c h hc
  unfold addE at this
  rw [if_pos hn, if_pos hn] at this
  exact this
theorem log_Last (w : World) (g o : Nat) (L : List Int) (h : LogR w g o L) :
    Calls Try.prog 11 #[.pointer (some ⟨g, o, none⟩)] w fun e w' => e = .returned (.tuple #[.int .i64 (lastE L), .bool (decide (0 < L.length))]) ∧ Grew w w' := by
  obtain ⟨ks, f, n, a, rfl⟩ := h
  rw [logL_length]
  exact edge_Last w g o ks f n a
theorem log_All (w : World) (g o : Nat) (L : List Int) (h : LogR w g o L) :
    Calls Try.prog 10 #[.pointer (some ⟨g, o, none⟩)] w fun e w' => ∃ v, e = .returned v ∧ OwnZ w.heap.size 2 .i64 w' v L ∧ Grew w w' := by
  obtain ⟨ks, f, n, a, rfl⟩ := h
  exact edge_All w g o ks f n a
theorem log_Count (w : World) (g o : Nat) (L : List Int) (a b : Int) (h : LogR w g o L) :
    Calls Try.prog 13 #[.pointer (some ⟨g, o, none⟩), .int .i64 a, .int .i64 b] w fun e w' => e = .returned (.int .i64 (cntE L a b L.length : Nat)) ∧ Grew w w' := by
  obtain ⟨ks, f, n, h, rfl⟩ := h
  rw [logL_length]
  exact edge_Count w g o ks f n a b h
theorem kE1 : pushE [] 5 = [5] ∧ pushE [5] 9 = [5, 9] ∧ lastE [] = 0 ∧ lastE [5] = 5 ∧ lastE [5, 9] = 9 ∧ cntE [5, 9] 6 9 2 = 1 := ⟨by decide, by decide, by decide, by decide, by decide, by decide⟩
-- [KNOWN
set_option maxRecDepth 100000 in
set_option maxHeartbeats 2000000 in
theorem law_known16 (w : World) : Calls Try.prog 5 #[] w fun e w' => e = .returned (.bool true) ∧ Grew w w' := by
  obtain ⟨k1, k2, k3, k4, k5, k6⟩ := kE1
  have HN := Lib.hid (log_New w)
  have HA1 := fun w' (h : LogR w' w.heap.size 0 []) => Lib.hid (log_AddOk w' w.heap.size 0 [] 5 h (by decide) (by rw [k3]; decide))
  rw [k1] at HA1
  have HA2 := fun w' (h : LogR w' w.heap.size 0 [5]) => Lib.hid (log_AddOk w' w.heap.size 0 [5] 9 h (by decide) (by rw [k4]; decide))
  rw [k2] at HA2
  have HA3 := fun w' (h : LogR w' w.heap.size 0 [5, 9]) => Lib.hid (log_AddNo w' w.heap.size 0 [5, 9] 7 h (by decide) (by rw [k5]; decide))
  have HC := fun w' (h : LogR w' w.heap.size 0 [5, 9]) => Lib.hid (log_Count w' w.heap.size 0 [5, 9] 6 9 h)
  rw [show ([5, 9] : List Int).length = 2 from rfl, k6] at HC
  clear k1 k2 k3 k4 k5 k6
  obtain ⟨p, HPp⟩ : ∃ p, Hid (w.heap.size = p) := ⟨_, Lib.hid rfl⟩
  rw [HPp.out] at HN HA1 HA2 HA3 HC
  have HFG : Hid (∀ b c : World, Grew w b → Far (fun b => b = p) b c → Grew w c) := Lib.hid (fun b c q s => s.grew q (fun k e => by rw [e]; exact Nat.le_of_eq HPp.out))
  go_enter Try.func5, Try.ntmps5
  go_wp2_with (first
    | (go_at_call 6; refine HN.out.mono ?_; rintro e w1 ⟨rfl, h1, g1⟩; replace h1 := Lib.hid h1; replace g1 := Lib.hid g1)
    | (go_at_call 8; refine (HA3 _ h3.out).out.mono ?_; rintro e w4 ⟨rfl, h4, f4⟩; replace h4 := Lib.hid h4; have g4 := Lib.hid (HFG.out _ _ g3.out f4); clear f4)
    | (go_at_call 8; refine (HA2 _ h2.out).out.mono ?_; rintro e w3 ⟨rfl, h3, f3⟩; replace h3 := Lib.hid h3; have g3 := Lib.hid (HFG.out _ _ g2.out f3); clear f3)
    | (go_at_call 8; refine (HA1 _ h1.out).out.mono ?_; rintro e w2 ⟨rfl, h2, f2⟩; replace h2 := Lib.hid h2; have g2 := Lib.hid (HFG.out _ _ g1.out f2); clear f2)
    | (go_at_call 13; refine (HC _ h4.out).out.mono ?_; rintro e w5 ⟨rfl, g5⟩))
  go_ret
  exact ⟨rfl, g4.out.trans g5⟩
-- KNOWN]
end Go.Proofs.Ytinkmpndlikgfaa
