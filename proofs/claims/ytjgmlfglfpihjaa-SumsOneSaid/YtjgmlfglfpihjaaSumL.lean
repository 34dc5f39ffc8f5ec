/-
  The walks of the laws on checksums, out of the program's contracts.
-/
import Derived.Test.YtjgmlfglfpihjaaSumX
import Derived.Test.YtjgmlfglfpihjaaRowK
import Derived.StillTailTactics
import Derived.Lib.SlBytesConst
namespace Go.Proofs.Ytjgmlfglfpihjaa
open Go.RowKit
set_option linter.unusedVariables false

/-- What the program's calls tell of rows of bytes that are not too long; T: what they lean on in the world. -/
structure SumCalls (T : World → Prop) : Prop where
  keep : ∀ w w', T w → Grew w w' → T w'
  xor : ∀ v ns w, Row .u8 w v ns → Bytes ns → ns.length ≤ 5000 → T w → Calls Try.prog 8 #[v] w fun e w' => e = .returned (.int .u8 (xorOf ns : Nat)) ∧ Grew w w'
  flet : ∀ v ns w, Row .u8 w v ns → Bytes ns → ns.length ≤ 5000 → T w → Calls Try.prog 6 #[v] w fun e w' => e = .returned (.tuple #[.int .u8 (fletA ns : Nat), .int .u8 (fletB ns : Nat)]) ∧ Grew w w'
  fif : ∀ v ns w, Row .u8 w v ns → Bytes ns → ns.length ≤ 5000 → T w → Calls Try.prog 10 #[v] w fun e w' => e = .returned (.int .u16 (fifOf ns : Nat)) ∧ Grew w w'
  crc : ∀ v ns w, Row .u8 w v ns → Bytes ns → ns.length ≤ 5000 → T w → Calls Try.prog 12 #[v] w fun e w' => e = .returned (.int .u32 (crcOf ns : Nat)) ∧ Grew w w'

def nine : List Nat := [49, 50, 51, 52, 53, 54, 55, 56, 57]
theorem nine_facts : xorOf nine = 49 ∧ fifOf nine = 477 ∧ crcOf nine = 3421780262 ∧ fletA [1, 2, 3] = 6 ∧ fletB [1, 2, 3] = 10 := by decide +kernel
theorem bytes_nine : Bytes nine := Bytes.of_mem (by decide)
theorem bytes_three : Bytes [1, 2, 3] := Bytes.of_mem (by decide)

theorem known_rows (w : World) (E : TypeId) : ∃ W, (w.alloc (.cells #[.int .u8 49, .int .u8 50, .int .u8 51, .int .u8 52, .int .u8 53, .int .u8 54, .int .u8 55, .int .u8 56, .int .u8 57] E (9, 10))).alloc (.cells #[.int .u8 1, .int .u8 2, .int .u8 3] E) = W ∧ Grew w W ∧
    Row .u8 W (.slice (some ⟨w.heap.size, 0, none⟩) 9 9) nine ∧ Row .u8 W (.slice (some ⟨w.heap.size + 1, 0, none⟩) 3 3) [1, 2, 3] := by
  refine ⟨_, rfl, ((Grew.refl _).alloc _).alloc _, Row.of_block (ns := nine) ((heap_alloc_old _ _ (by simp)).trans (heap_alloc_new _ _)) (fun i hi => ?_) 9 (by decide), ?_⟩
  · have : i = 0 ∨ i = 1 ∨ i = 2 ∨ i = 3 ∨ i = 4 ∨ i = 5 ∨ i = 6 ∨ i = 7 ∨ i = 8 := by have : nine.length = 9 := rfl; omega
    rcases this with rfl | rfl | rfl | rfl | rfl | rfl | rfl | rfl | rfl <;> rfl
  · have h := heap_alloc_new (w.alloc (.cells #[.int .u8 49, .int .u8 50, .int .u8 51, .int .u8 52, .int .u8 53, .int .u8 54, .int .u8 55, .int .u8 56, .int .u8 57] E (9, 10))) (.cells #[.int .u8 1, .int .u8 2, .int .u8 3] E)
    rw [World.size_alloc] at h
    refine Row.of_block (ns := [1, 2, 3]) h (fun i hi => ?_) 3 (by decide)
    have : i = 0 ∨ i = 1 ∨ i = 2 := by simp at hi; omega
    rcases this with rfl | rfl | rfl <;> rfl

set_option maxHeartbeats 1000000 in
theorem sums_known {T : World → Prop} (P : SumCalls T) (w : World) (ht : T w) : Calls Try.prog 5 #[] w fun e w' => e = .returned (.bool true) ∧ Grew w w' := by
  obtain ⟨n1, n2, n3, n4, n5⟩ := nine_facts
  have K := Lib.hid P.keep
  have H1 : ∀ v w, Row .u8 w v nine → T w → Hid (Calls Try.prog 8 #[v] w fun e w' => e = .returned (.int .u8 49) ∧ Grew w w') := fun v w h t => by have := P.xor v nine w h bytes_nine (by decide) t; rw [n1] at this; exact this
  have H2 : ∀ v w, Row .u8 w v nine → T w → Hid (Calls Try.prog 10 #[v] w fun e w' => e = .returned (.int .u16 477) ∧ Grew w w') := fun v w h t => by have := P.fif v nine w h bytes_nine (by decide) t; rw [n2] at this; exact this
  have H3 : ∀ v w, Row .u8 w v nine → T w → Hid (Calls Try.prog 12 #[v] w fun e w' => e = .returned (.int .u32 3421780262) ∧ Grew w w') := fun v w h t => by have := P.crc v nine w h bytes_nine (by decide) t; rw [n3] at this; exact this
  have H4 : ∀ v w, Row .u8 w v [1, 2, 3] → T w → Hid (Calls Try.prog 6 #[v] w fun e w' => e = .returned (.tuple #[.int .u8 6, .int .u8 10]) ∧ Grew w w') := fun v w h t => by have := P.flet v [1, 2, 3] w h bytes_three (by decide) t; rw [n4, n5] at this; exact this
  clear n1 n2 n3 n4 n5
  have kc := fun (w : World) (C : Array Value) (n c : Nat) => Lib.run_convert_bytes_const (P := Try.prog) w 22 5 C n c Try.underlying22 Try.underlying5
  go_enter Try.func5, Try.ntmps5
  go_wp2_with fail
  obtain ⟨W, hW, G, R1, R2⟩ := known_rows w 5
  rw [hW]
  clear hW kc
  refine (H4 _ _ R2 (K.out _ _ ht G)).out.mono ?_
  rintro e w1 ⟨rfl, g1⟩
  replace R1 := R1.grew g1
  replace G := G.trans g1
  clear g1 R2
  go_wp2_with (first
    | (go_at_call 8; refine (H1 _ _ R1 (K.out _ _ ht G)).out.mono ?_; rintro e w' ⟨rfl, hg⟩; replace G := G.trans hg; replace R1 := R1.grew hg; clear hg)
    | (go_at_call 10; refine (H2 _ _ R1 (K.out _ _ ht G)).out.mono ?_; rintro e w' ⟨rfl, hg⟩; replace G := G.trans hg; replace R1 := R1.grew hg; clear hg)
    | (go_at_call 12; refine (H3 _ _ R1 (K.out _ _ ht G)).out.mono ?_; rintro e w' ⟨rfl, hg⟩; replace G := G.trans hg; replace R1 := R1.grew hg; clear hg))
  go_ret
  exact ⟨rfl, G⟩

set_option maxRecDepth 100000 in
set_option maxHeartbeats 2000000 in
theorem walk_SumsAll {T : World → Prop} (P : SumCalls T) (v : Value) (ns : List Nat) (w : World) (ht : T w) (hR : Row .u8 w v ns) (hB : Bytes ns) (hl : ns.length ≤ maxLen) :
    Calls Try.prog 3 #[v] w fun e w' => e = .returned (.bool true) ∧ Grew w w' := by
  have HK := fun w ht => Lib.hid (sums_known P w ht)
  have K := Lib.hid P.keep
  have G := Grew.refl w
  unfold maxLen at hl
  obtain ⟨A, c, rfl, hc⟩ := hR.form
  by_cases hlt : 2000 < ns.length
  · go_enter Try.func3, Try.ntmps3
    go_wp2_with fail
    refine (HK _ (K.out _ _ ht G)).out.mono ?_
    rintro e w1 ⟨rfl, g⟩
    go_wp2_with fail
    go_ret
    exact ⟨rfl, g⟩
  · go_enter Try.func3, Try.ntmps3
    have hO := Own.lit w .u8 5 w.heap.size (Nat.le_refl _) [] (by decide)
    have G0 := G.alloc (.cells #[] 5)
    have hR0 := hR.grew G0
    go_wp2_with (refine wpList_join _ rfl _ _ 22 rfl w.heap.size 5 .u8 1 Try.underlying22 infoU8 _ [] rfl hO _ ns rfl hR0 (by simp; omega) (by decide) (by simp) ?_; intro v' w1 hown hgrow)
    have G1 := Grew.push G0 hO hgrow
    rw [List.nil_append] at hown
    have hI := hown.row
    have hR1 := hR.grew G1
    clear hO G0 hR0 hown hgrow G
    have G := Lib.hid G1
    have C1 := fun w' (g : Grew w w') => Lib.hid (Row.string w' (hR.grew g) 22 5 Try.underlying22 Try.underlying5 9 Try.underlying9)
    have C2 := fun w' (g : Grew w1 w') => Lib.hid (Row.string w' (hI.grew g) 22 5 Try.underlying22 Try.underlying5 9 Try.underlying9)
    have D := Grew.refl w1
    have hl2 : ns.length ≤ 5000 := by omega
    have A1 := fun w' (g : Grew w1 w') => Lib.hid (P.xor v' ns w' (hI.grew g) hB hl2 (K.out _ _ ht (G.out.trans g)))
    have A2 := fun w' (g : Grew w1 w') => Lib.hid (P.flet v' ns w' (hI.grew g) hB hl2 (K.out _ _ ht (G.out.trans g)))
    have A3 := fun w' (g : Grew w1 w') => Lib.hid (P.fif v' ns w' (hI.grew g) hB hl2 (K.out _ _ ht (G.out.trans g)))
    have A4 := fun w' (g : Grew w1 w') => Lib.hid (P.crc v' ns w' (hI.grew g) hB hl2 (K.out _ _ ht (G.out.trans g)))
    have B1 := fun w' (g : Grew w1 w') => Lib.hid (ref07_Xor _ ns w' (hR1.grew g) hB (by omega))
    have B2 := fun w' (g : Grew w1 w') => Lib.hid (ref07_Fletcher _ ns w' (hR1.grew g) hB (by omega))
    have B3 := fun w' (g : Grew w1 w') => Lib.hid (ref07_Fifteen _ ns w' (hR1.grew g) hB (by omega))
    have B4 := fun w' (g : Grew w1 w') => Lib.hid (ref07_CRC _ ns w' (hR1.grew g) hB (by omega))
    clear hR hR1 G1
    generalize xorOf ns = x1 at *
    generalize fletA ns = x2 at *
    generalize fletB ns = x3 at *
    generalize fifOf ns = x4 at *
    generalize crcOf ns = x5 at *
    generalize strOf ns = x6 at *
    go_wp2_with (first | (go_at_call 6; refine (A2 _ D).out.mono ?_; rintro e w' ⟨rfl, hg⟩; replace D := D.trans hg; clear hg) | (go_at_call 8; refine (A1 _ D).out.mono ?_; rintro e w' ⟨rfl, hg⟩; replace D := D.trans hg; clear hg) | (go_at_call 10; refine (A3 _ D).out.mono ?_; rintro e w' ⟨rfl, hg⟩; replace D := D.trans hg; clear hg) | (go_at_call 12; refine (A4 _ D).out.mono ?_; rintro e w' ⟨rfl, hg⟩; replace D := D.trans hg; clear hg; have k1 := (C1 _ (G.out.trans D)).out; have k2 := (C2 _ D).out) | (go_at_call 7; refine (B2 _ D).out.mono ?_; rintro e w' ⟨rfl, rfl⟩) | (go_at_call 9; refine (B1 _ D).out.mono ?_; rintro e w' ⟨rfl, rfl⟩) | (go_at_call 11; refine (B3 _ D).out.mono ?_; rintro e w' ⟨rfl, rfl⟩) | (go_at_call 13; refine (B4 _ D).out.mono ?_; rintro e w' ⟨rfl, rfl⟩) | (go_at_call 5; refine (HK _ (K.out _ _ ht (G.out.trans D))).out.mono ?_; rintro e w' ⟨rfl, hg⟩; replace D := D.trans hg; clear hg))
    go_ret
    exact ⟨rfl, G.out.trans D⟩
end Go.Proofs.Ytjgmlfglfpihjaa
