/-
  The laws of SiRF messages: the page's examples; a payload read. The program's calls are handed in.
-/
import Derived.Test.YtjjpfbdcfifofaaSrrE
import Derived.Test.YtjjpfbdcfifofaaRowY
namespace Go.Proofs.Ytjjpfbdcfifofaa
open Go.RowKit
set_option linter.unusedVariables false

/-- What the program's calls of layer 13 tell. -/
structure SirfCalls : Prop where
  dec : ∀ (v : Value) (S : List Nat) (w : World), Row .u8 w v S → Bytes S → S.length ≤ 100000 → Calls Try.prog 7 #[v] w (DecS (srfDec S) w)
  pay : ∀ (a : Nat) (v : Value) (zs : List Int) (w : World), a < 256 → RowZ .i64 w v zs → I64 zs → zs.length ≤ 100000 → Calls Try.prog 10 #[.agg #[.int .u8 (a : Nat), v]] w (PayR (srfPay a zs) w)
  enc : ∀ (a : Nat) (v : Value) (zs : List Int) (w : World), a < 256 → RowZ .i64 w v zs → I64 zs → zs.length ≤ 100000 → Calls Try.prog 12 #[.agg #[.int .u8 (a : Nat), v]] w (PayR (srfEnc a zs) w)
theorem srfDec_len (S : List Nat) : (srfDec S).2.1.length ≤ 12 := by
  have := (srf_layOk (wd S 0)).even
  unfold srfDec
  split
  · simp
  · split
    · simp
    · split
      · simp
      · show (bvalsTo _ _ _).length ≤ 12; rw [bvalsTo_length]; omega
theorem sxA : srfEnc 11 [166] = ([160, 162, 0, 2, 11, 166, 0, 177, 176, 179], 0) := by kernel_rfl
theorem sxB : srfEnc 166 [0, 52, 1] = ([160, 162, 0, 8, 166, 0, 52, 1, 0, 0, 0, 0, 0, 219, 176, 179], 0) := by kernel_rfl
theorem sxC : srfDec [11] = (0, [], 5) := by kernel_rfl
theorem sxD : srfDec [] = (0, [], 4) := by kernel_rfl
theorem sxE : srfDec [99] = (0, [], 7) := by kernel_rfl
theorem stA : strOf [160, 162, 0, 2, 11, 166, 0, 177, 176, 179] = ⟨#[160, 162, 0, 2, 11, 166, 0, 177, 176, 179]⟩ := by kernel_rfl
theorem stB : strOf [160, 162, 0, 8, 166, 0, 52, 1, 0, 0, 0, 0, 0, 219, 176, 179] = ⟨#[160, 162, 0, 8, 166, 0, 52, 1, 0, 0, 0, 0, 0, 219, 176, 179]⟩ := by kernel_rfl
theorem sknown_a (C : SirfCalls) (w : World) : Calls Try.prog 12 #[.agg #[.int .u8 11, .slice (some ⟨w.heap.size, 0, none⟩) 1 1]] (w.alloc (.cells #[.int .i64 166] 2)) fun e w' => ∃ A c, e = .returned (.tuple #[.slice A 10 c, .int .i64 0]) ∧ Row .u8 w' (.slice A 10 c) [160, 162, 0, 2, 11, 166, 0, 177, 176, 179] ∧ Grew w w' := by
  have h := C.enc 11 (.slice (some ⟨w.heap.size, 0, none⟩) 1 1) [166] (w.alloc (.cells #[.int .i64 166] 2)) (by decide) (row_litZ' _ _ _ _ _ _ _ rfl rfl) (i64_lit (by decide)) (by decide)
  rw [sxA] at h
  refine h.mono ?_
  rintro e w' ⟨v, rfl, hr, _, g⟩
  obtain ⟨A, c, rfl, _⟩ := hr.form
  exact ⟨A, c, rfl, hr, ((Grew.refl w).alloc _).trans g⟩
theorem sknown_b (C : SirfCalls) (w : World) : Calls Try.prog 12 #[.agg #[.int .u8 166, .slice (some ⟨w.heap.size, 0, none⟩) 3 3]] (w.alloc (.cells #[.int .i64 0, .int .i64 52, .int .i64 1] 2)) fun e w' => ∃ A c, e = .returned (.tuple #[.slice A 16 c, .int .i64 0]) ∧ Row .u8 w' (.slice A 16 c) [160, 162, 0, 8, 166, 0, 52, 1, 0, 0, 0, 0, 0, 219, 176, 179] ∧ Grew w w' := by
  have h := C.enc 166 (.slice (some ⟨w.heap.size, 0, none⟩) 3 3) [0, 52, 1] (w.alloc (.cells #[.int .i64 0, .int .i64 52, .int .i64 1] 2)) (by decide) (row_litZ' _ _ _ _ _ _ _ rfl rfl) (i64_lit (by decide)) (by decide)
  rw [sxB] at h
  refine h.mono ?_
  rintro e w' ⟨v, rfl, hr, _, g⟩
  obtain ⟨A, c, rfl, _⟩ := hr.form
  exact ⟨A, c, rfl, hr, ((Grew.refl w).alloc _).trans g⟩
theorem sknown_c (C : SirfCalls) (w : World) : Calls Try.prog 7 #[.slice (some ⟨w.heap.size, 0, none⟩) 1 1] (w.alloc (.cells #[.int .u8 11] 5)) fun e w' => ∃ A c, e = .returned (.tuple #[.agg #[.int .u8 0, .slice A 0 c], .int .i64 5]) ∧ Grew w w' := by
  have h := C.dec (.slice (some ⟨w.heap.size, 0, none⟩) 1 1) [11] (w.alloc (.cells #[.int .u8 11] 5)) (own_litN (B := 0) w 5 #[.int .u8 11] [11] 1 (Nat.zero_le _) rfl rfl (by decide)).row (Bytes.of_mem (by simp)) (by decide)
  rw [sxC] at h
  refine h.mono ?_
  rintro e w' ⟨v, rfl, hr, _, g⟩
  obtain ⟨A, c, rfl, _⟩ := hr.form
  exact ⟨A, c, rfl, ((Grew.refl w).alloc _).trans g⟩
theorem sknown_d (C : SirfCalls) (w : World) : Calls Try.prog 7 #[.slice none 0 0] w fun e w' => ∃ A c, e = .returned (.tuple #[.agg #[.int .u8 0, .slice A 0 c], .int .i64 4]) ∧ Grew w w' := by
  have h := C.dec (.slice none 0 0) [] w (Row.nil _ _) (Bytes.of_mem (by simp)) (by decide)
  rw [sxD] at h
  refine h.mono ?_
  rintro e w' ⟨v, rfl, hr, _, g⟩
  obtain ⟨A, c, rfl, _⟩ := hr.form
  exact ⟨A, c, rfl, g⟩
theorem sknown_e (C : SirfCalls) (w : World) : Calls Try.prog 7 #[.slice (some ⟨w.heap.size, 0, none⟩) 1 1] (w.alloc (.cells #[.int .u8 99] 5)) fun e w' => ∃ A c, e = .returned (.tuple #[.agg #[.int .u8 0, .slice A 0 c], .int .i64 7]) ∧ Grew w w' := by
  have h := C.dec (.slice (some ⟨w.heap.size, 0, none⟩) 1 1) [99] (w.alloc (.cells #[.int .u8 99] 5)) (own_litN (B := 0) w 5 #[.int .u8 99] [99] 1 (Nat.zero_le _) rfl rfl (by decide)).row (Bytes.of_mem (by simp)) (by decide)
  rw [sxE] at h
  refine h.mono ?_
  rintro e w' ⟨v, rfl, hr, _, g⟩
  obtain ⟨A, c, rfl, _⟩ := hr.form
  exact ⟨A, c, rfl, ((Grew.refl w).alloc _).trans g⟩
set_option maxRecDepth 100000 in
set_option maxHeartbeats 2000000 in
theorem law_known13 (C : SirfCalls) (w : World) : Calls Try.prog 6 #[] w fun e w' => e = .returned (.bool true) ∧ Grew w w' := by
  have HA := fun w => Lib.hid (sknown_a C w)
  have HB := fun w => Lib.hid (sknown_b C w)
  have HC := fun w => Lib.hid (sknown_c C w)
  have HD := fun w => Lib.hid (sknown_d C w)
  have HE := fun w => Lib.hid (sknown_e C w)
  go_enter Try.func6, Try.ntmps6
  go_upto_region 2 with (go_at_call 12; refine (HA _).out.mono ?_; rintro e w1 ⟨A1, c1, rfl, r1, g1⟩)
  have G1 := Lib.hid g1
  have R1 := Lib.hid r1
  clear g1 r1 HA
  go_upto_region 3 with (go_at_call 12; refine (HB _).out.mono ?_; rintro e w2 ⟨A2, c2, rfl, r2, g2⟩)
  have G2 := Lib.hid (G1.out.trans g2)
  have R1 := Lib.hid (R1.out.grew g2)
  have R2 := Lib.hid r2
  clear g2 r2 HB
  go_upto_region 4 with (go_at_call 7; refine (HC _).out.mono ?_; rintro e w3 ⟨A3, c3, rfl, g⟩)
  obtain ⟨V3, hV, k, _⟩ := twoC_new w3 (.int .u8 0) (.slice A3 0 c3) 26
  rw [hV]
  have G2 := Lib.hid (G2.out.trans (g.trans k))
  have R1 := Lib.hid (R1.out.grew (g.trans k))
  have R2 := Lib.hid (R2.out.grew (g.trans k))
  clear g k hV HC
  go_upto_region 5 with (go_at_call 7; refine (HD _).out.mono ?_; rintro e w4 ⟨A4, c4, rfl, g⟩)
  obtain ⟨V4, hV, k, _⟩ := twoC_new w4 (.int .u8 0) (.slice A4 0 c4) 26
  rw [hV]
  have G2 := Lib.hid (G2.out.trans (g.trans k))
  have R1 := Lib.hid (R1.out.grew (g.trans k))
  have R2 := Lib.hid (R2.out.grew (g.trans k))
  clear g k hV HD
  go_upto_region 6 with (go_at_call 7; refine (HE _).out.mono ?_; rintro e w5 ⟨A5, c5, rfl, g⟩)
  obtain ⟨V5, hV, k, _⟩ := twoC_new w5 (.int .u8 0) (.slice A5 0 c5) 26
  rw [hV]
  have G2 := Lib.hid (G2.out.trans (g.trans k))
  have R1 := Lib.hid (R1.out.grew (g.trans k))
  have R2 := Lib.hid (R2.out.grew (g.trans k))
  clear g k hV HE
  have q1 := Row.string _ R1.out 22 5 Try.underlying22 Try.underlying5 9 Try.underlying9
  have q2 := Row.string _ R2.out 22 5 Try.underlying22 Try.underlying5 9 Try.underlying9
  rw [stA] at q1
  rw [stB] at q2
  clear R1 R2
  go_wp2_with fail
  go_ret
  exact ⟨by first | rfl | simp, G2.out⟩
set_option maxRecDepth 100000 in
set_option maxHeartbeats 4000000 in
theorem law_SirfReads (C : SirfCalls) (v : Value) (S : List Nat) (w : World) (hr : Row .u8 w v S) (hB : Bytes S) :
    Calls Try.prog 3 #[v] w fun e w' => e = .returned (.bool true) ∧ Grew w w' := by
  have HKN := fun w => Lib.hid (law_known13 C w)
  have HR := Lib.hid hr
  obtain ⟨SA, sc, rfl, hsc⟩ := hr.form
  by_cases hbig : 1100 < S.length
  · have n1 : (1100 : Int) < S.length := by omega
    clear hr
    go_enter Try.func3, Try.ntmps3
    go_wp2_with (go_at_call 6; refine (HKN _).out.mono ?_; rintro e w1 ⟨rfl, g1⟩)
    go_ret
    exact ⟨rfl, g1⟩
  · have n1 : ¬ (1100 : Int) < S.length := by omega
    have HP := fun v w hr => C.dec v S w hr hB (by omega)
    have HD := fun v w hr => ref13_Decode v S w hr hB (by omega)
    have hlen := srfDec_len S
    generalize srfDec S = r at *
    unfold DecS at HP HD
    generalize r.2.2 = er at *
    generalize r.2.1 = zs at *
    generalize r.1 = a' at *
    have HS := fun v1 v2 w' h1 h2 => ref13_Same a' a' v1 v2 zs zs w' h1 h2 (by omega)
    simp only [decide_true, Bool.and_true] at HS
    replace HP := fun v w hr => Lib.hid (HP v w hr)
    replace HD := fun v w hr => Lib.hid (HD v w hr)
    replace HS := fun v1 v2 w' h1 h2 => Lib.hid (HS v1 v2 w' h1 h2)
    have HO1 := own_litN (B := w.heap.size) w 5 #[] [] 0 (Nat.le_refl _) rfl rfl (by simp [maxLen])
    have HR1 := hr.grew ((Grew.refl w).alloc (.cells #[] 5))
    clear hr
    go_enter Try.func3, Try.ntmps3
    go_upto_region 4 with (refine wpList_joinN _ rfl _ _ 22 rfl w.heap.size 5 .u8 1 Try.underlying22 infoU8 (.slice (some ⟨w.heap.size, 0, none⟩) 0 0) _ rfl HO1 _ S rfl HR1 (by simp only [List.length_nil]; omega) (by decide) (by simp) ?_; intro v1 w1 hown hgrow hnil)
    have G1 := Lib.hid (Grew.pushV ((Grew.refl w).alloc (.cells #[] 5)) HO1 (Nat.le_refl _) hgrow)
    rw [List.nil_append] at hown
    have hrow1 := hown.row
    obtain ⟨A1, c1, rfl, _⟩ := hrow1.form
    have R1 := Lib.hid hrow1
    have HP1 := HP _ _ hrow1
    clear hown hgrow hnil HO1 HR1 hrow1 HP
    go_upto_region 5 with (go_at_call 7; refine HP1.out.mono ?_; rintro e w2 ⟨u1, rfl, k1, _, g2⟩; obtain ⟨UA1, uc1, rfl, _⟩ := k1.form)
    obtain ⟨V2, hV2, gV2, T2⟩ := twoC_new w2 (.int .u8 (a' : Nat)) (.slice UA1 zs.length uc1) 26
    try rw [hV2]
    have G2 := Lib.hid (G1.out.trans (g2.trans gV2))
    have R2 := Lib.hid (R1.out.grew (g2.trans gV2))
    have K2 := Lib.hid (k1.grew gV2)
    have HD1 := HD _ _ (HR.out.grew G2.out)
    clear k1 hV2 HP1 R1 HD
    go_upto_region 6 with (go_at_call 8; refine HD1.out.mono ?_; rintro e w3 ⟨u2, rfl, k3, _, g3⟩; obtain ⟨UA2, uc2, rfl, _⟩ := k3.form)
    obtain ⟨V3, hV3, gV3, T3⟩ := twoC_new w3 (.int .u8 (a' : Nat)) (.slice UA2 zs.length uc2) 26
    try rw [hV3]
    have G3 := Lib.hid (G2.out.trans (g3.trans gV3))
    have R3 := Lib.hid (R2.out.grew (g3.trans gV3))
    have K3 := Lib.hid (k3.grew gV3)
    have K2' := Lib.hid (K2.out.grew (g3.trans gV3))
    have HS1 := HS _ _ V3 K2'.out K3.out
    obtain ⟨_, x0, x1, _, _⟩ := T2.grew (g3.trans gV3)
    obtain ⟨_, y0, y1, _, _⟩ := T3
    have HC1 := fun w' (g : Grew V3 w') => Lib.hid (Row.string _ (R3.out.grew g) 22 5 Try.underlying22 Try.underlying5 9 Try.underlying9)
    have HC2 := fun w' (g : Grew V3 w') => Lib.hid (Row.string _ (HR.out.grew (G3.out.trans g)) 22 5 Try.underlying22 Try.underlying5 9 Try.underlying9)
    clear k3 hV3 HD1 R2 K2 HS T2
    go_wp2_with (first
      | (go_at_call 9; refine HS1.out.mono ?_; rintro e w4 ⟨rfl, g4⟩; have q1 := (HC1 _ g4).out; have q2 := (HC2 _ g4).out)
      | (go_at_call 6; refine (HKN _).out.mono ?_; rintro e w5 ⟨rfl, g5⟩))
    go_ret
    exact ⟨by simp, (G3.out.trans g4).trans g5⟩
end Go.Proofs.Ytjjpfbdcfifofaa
