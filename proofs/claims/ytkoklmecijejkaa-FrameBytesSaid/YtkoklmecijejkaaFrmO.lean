/-
  The walk of the law on a frame's bytes, out of the contracts.
-/
import Derived.Test.YtkoklmecijejkaaFrmN
namespace Go.Proofs.Ytkoklmecijejkaa
open Go.RowKit
set_option linter.unusedVariables false

theorem Bytes.mem {L : List Nat} (hB : Bytes L) : ∀ x ∈ L, x < 256 := fun x hx => by
  obtain ⟨i, hi, rfl⟩ := List.getElem_of_mem hx
  have := hB i
  rwa [wd_lt hi] at this
theorem frame_bytes {k : Nat} {ns : List Nat} (hB : Bytes ns) (hk : k < 256) : Bytes (frameBytes k ns) := by
  refine Bytes.of_mem (fun x hx => ?_)
  unfold frameBytes at hx
  split at hx
  · rename_i he
    have hm := hB.mem
    have h1 : xorOf ns < 256 := xorTo_lt hB _
    have h2 := fletB_lt (ubxRow ns)
    have h3 : fletA (ubxRow ns) < 256 := by unfold fletA; omega
    have h4 : fifOf ns < 32768 := by unfold fifOf; omega
    have d1 := digit_lt (xorOf ns / 16) (by omega)
    have d2 := digit_lt (xorOf ns % 16) (by omega)
    unfold frameErr at he
    by_cases k1 : k = 1
    · simp only [frameRow, if_pos k1, List.mem_cons, List.mem_append, List.not_mem_nil, or_false] at hx
      rcases hx with rfl | hx | rfl | rfl | rfl | rfl | rfl
      · omega
      · exact hm _ hx
      all_goals omega
    · rw [if_neg k1] at he
      by_cases k2 : k = 2
      · rw [if_pos k2] at he
        have hl : ns.length ≤ 514 := by by_cases h : ns.length < 2 <;> by_cases h' : 514 < ns.length <;> simp_all <;> omega
        have hd : ∀ y ∈ ns.drop 2, y < 256 := fun y hy => hm y (List.mem_of_mem_drop hy)
        have b0 := hB 0
        have b1 := hB 1
        simp only [frameRow, if_neg k1, if_pos k2] at hx
        generalize fletA (ubxRow ns) = fa at *
        generalize fletB (ubxRow ns) = fb at *
        simp only [ubxRow, List.mem_cons, List.mem_append, List.not_mem_nil, or_false] at hx
        rcases hx with (e | e) | ((e | e | e | e) | e) | e | e
        all_goals first | (exact hd _ e) | (rw [e]; first | exact b0 | exact b1 | omega)
      · rw [if_neg k2] at he
        by_cases k3 : k = 3
        · rw [if_pos k3] at he
          have hl : ns.length ≤ 1023 := by by_cases h : 1023 < ns.length <;> simp_all <;> omega
          simp only [frameRow, if_neg k1, if_neg k2, List.mem_cons, List.mem_append, List.not_mem_nil, or_false] at hx
          rcases hx with (e | e | e | e) | e | e | e | e | e
          all_goals first | (exact hm _ e) | (rw [e]; omega)
        · rw [if_neg k3] at he; cases he
  · simp at hx
set_option maxRecDepth 1000000 in
set_option maxHeartbeats 4000000 in
theorem walk_FrameBytes {R : World → Value → (Nat → Prop) → Nat → List Nat → Nat → Prop} {T : World → Prop} (P : RingCalls R T) (Q : FrameCalls R T) (k : Nat) (fv : Value) (ns : List Nat) (w : World) (ht : T w) (hk : k < 256) (hR : Row .u8 w fv ns) (hB : Bytes ns) (hn : ns.length ≤ 140737488355328) :
    Calls Try.prog 4 #[.agg #[.int .u8 (k : Nat), fv]] w fun e w' => e = .returned (.bool true) ∧ Grew w w' := by
  have K := Lib.hid P.keep
  have HK := fun w ht => Lib.hid (frame_known P Q w ht)
  have HRW := Lib.hid hR
  obtain ⟨A, c, rfl, hc⟩ := hR.form
  clear hR
  obtain ⟨V, hV⟩ : ∃ V, w.alloc (.cells #[.int .u8 (k : Nat), .slice A ns.length c] 34) = V := ⟨_, rfl⟩
  have gV : Grew w V := hV ▸ (Grew.refl w).alloc _
  have HBX : ∀ w', Grew V w' → Hid (w'.cell? ⟨w.heap.size, 0, none⟩ = some (.int .u8 (k : Nat)) ∧ w'.cell? ⟨w.heap.size, 1, none⟩ = some (.slice A ns.length c)) := fun w' g => Lib.hid (boxed_keeps (hV ▸ g))
  obtain ⟨x0, x1⟩ := (HBX V (Grew.refl V)).out
  go_enter Try.func4, Try.ntmps4
  by_cases hbig : 2000 < ns.length
  · have c1 : (2000 : Int) < ns.length := by omega
    go_wp2_with fail
    refine (HK _ (K.out _ _ ht gV)).out.mono ?_
    rintro e w1 ⟨rfl, g⟩
    go_wp2_with fail
    go_ret
    exact ⟨rfl, gV.trans g⟩
  · have c1 : ¬ (2000 : Int) < ns.length := by omega
    have HO := Lib.hid (Own.lit V .u8 5 V.heap.size (Nat.le_refl _) [] (by decide))
    have G0 := (Grew.refl V).alloc (.cells #[] 5)
    have RV := Lib.hid (HRW.out.grew (gV.trans G0))
    obtain ⟨z0, z1⟩ := (HBX _ G0).out
    go_wp2_with (refine wpList_joinN _ rfl _ _ 23 rfl V.heap.size 5 .u8 1 Try.underlying23 infoU8 (.slice (some ⟨V.heap.size, 0, none⟩) 0 0) [] rfl HO.out _ ns rfl RV.out (by simp only [List.length_nil, Nat.zero_add, Nat.mul_one]; omega) (by decide) (by simp) ?_; intro v' w1 hown hgrow hnil; have g1 := Grew.push G0 HO.out hgrow; rw [List.nil_append] at hown; obtain ⟨A1, k1, rfl, hk1⟩ := hown.row.form; obtain ⟨u0, u1⟩ := (HBX _ g1).out)
    have HIN := Lib.hid hown.row
    have G1 := Lib.hid (gV.trans g1)
    have GV1 := Lib.hid g1
    have H1 := Lib.hid (Q.bytes w1 k _ ns hown.row hB (by omega) hk (K.out _ _ ht (gV.trans g1)))
    clear hown hgrow hnil g1 x0 x1 z0 z1 RV HO G0
    refine H1.out.mono ?_
    clear H1
    rintro e w2 ⟨v2, rfl, hr2, _, g2⟩
    obtain ⟨A2, k2, rfl, hk2⟩ := hr2.form
    obtain ⟨y0, y1⟩ := (HBX _ (GV1.out.trans g2)).out
    have HR2 := Lib.hid hr2
    have G2 := Lib.hid g2
    have H2 := Lib.hid (ref08_Bytes k (.slice A ns.length c) ns w2 (HRW.out.grew (G1.out.trans g2)) hB (by omega) hk)
    clear hr2 g2 u0 u1
    go_wp2_with fail
    refine H2.out.mono ?_
    clear H2
    rintro e w3 ⟨v3, rfl, hO3, g3⟩
    obtain ⟨A3, k3, rfl, hk3⟩ := hO3.row.form
    have GV3 := Lib.hid ((GV1.out.trans G2.out).trans g3)
    obtain ⟨u0, u1⟩ := (HBX _ GV3.out).out
    have q1 := Row.string _ (HR2.out.grew g3) 23 5 Try.underlying23 Try.underlying5 9 Try.underlying9
    have q2 := Row.string _ hO3.row 23 5 Try.underlying23 Try.underlying5 9 Try.underlying9
    have q3 := Row.string _ (HIN.out.grew (G2.out.trans g3)) 23 5 Try.underlying23 Try.underlying5 9 Try.underlying9
    have q4 := Row.string _ (HRW.out.grew (gV.trans GV3.out)) 23 5 Try.underlying23 Try.underlying5 9 Try.underlying9
    have HR3 := Lib.hid (HR2.out.grew g3)
    have HFL := frame_len (k := k) (ns := ns)
    have HBY : Hid (Bytes (frameBytes k ns)) := frame_bytes hB hk
    clear hO3 g3 y0 y1 HIN HR2 G2 GV1 G1
    by_cases he : frameErr k ns = 0
    · have hfb : frameBytes k ns = frameRow k ns := by unfold frameBytes; rw [if_pos he]
      have hN : Hid (nextOf 4096 (frameRow k ns ++ []) = (some (k, ns), 0, [])) := next_whole 4096 k ns [] he (by rw [← hfb]; omega)
      rw [List.append_nil, ← hfb] at hN
      have hz : (frameErr k ns : Int) = 0 := by omega
      clear hfb he
      generalize frameBytes k ns = out at *
      go_wp2_with fail
      have H0 := Lib.hid (P.new 4096 w3 (by omega) (by omega) (K.out _ _ ht (gV.trans GV3.out)))
      refine H0.out.mono ?_
      clear H0
      rintro e w4 ⟨g, F, rfl, hR, hF, g4⟩
      have h1 := P.put w4 _ F 4096 [] 0 (.slice A2 out.length k2) out hR (HR3.out.grew g4) HBY.out (by omega) (by omega) (fun hn b hb hFb => by have := hF b hFb; have := HR3.out.lt hn b hb; omega) (K.out _ _ ht ((gV.trans GV3.out).trans g4))
      have e1 : ringOver 4096 [] out = 0 := by unfold ringOver; simp; omega
      have e2 : ringPut 4096 [] out = out := by unfold ringPut; rw [e1]; simp
      rw [e1, e2] at h1
      have H1 := Lib.hid h1
      have HF := Lib.hid hF
      have G4 := Lib.hid g4
      clear h1 e1 e2 hR hF g4 u0 u1 q1 q2 q3 q4
      go_wp2_with fail
      refine H1.out.mono ?_
      clear H1
      rintro e w5 ⟨F5, rfl, hR, hF5, far5⟩
      have G5 := Lib.hid (far5.grew G4.out (fun b hb => HF.out b hb))
      have HF5 : Hid (∀ b, F5 b → w3.heap.size ≤ b) := fun b hb => by
        rcases hF5 b hb with h | h
        · exact HF.out b h
        · exact Nat.le_trans G4.out.size h
      have H2 := Lib.hid (next_is Q hR (by omega) (K.out _ _ ht ((gV.trans GV3.out).trans G5.out)) hN.out rfl rfl)
      clear hR hF5 far5 HF G4
      go_wp2_with fail
      refine H2.out.mono ?_
      clear H2
      rintro e w6 ⟨F6, A6, k6, rfl, hrow, hkk, hown, hR6, hF6, far6⟩
      have G6 := Lib.hid (far6.grew G5.out (fun b hb => HF5.out b hb))
      have GW := Lib.hid (GV3.out.trans G6.out)
      have HR6 := Lib.hid hR6
      have HROW := Lib.hid hrow
      have H3 := fun w' (g : Grew w6 w') => Lib.hid (P.len _ _ _ _ _ _ (P.grew HR6.out g) (K.out _ _ ht ((gV.trans GW.out).trans g)))
      clear hrow hown hR6 hF6 far6 G5 HF5
      go_wp2_with fail
      refine (H3 _ ((Grew.refl w6).alloc _)).out.mono ?_
      clear H3
      rintro e w7 ⟨rfl, g7⟩
      have gB := ((Grew.refl w6).alloc (.cells #[.int .u8 (k : Nat), .slice A6 ns.length k6] 34)).trans g7
      obtain ⟨t0, t1⟩ := boxed_keeps g7
      have gL := (Grew.refl w7).alloc (.cells #[.int .u8 (k : Nat), .slice A6 ns.length k6] 34)
      obtain ⟨u0, u1⟩ := (HBX _ (((GW.out.trans gB).trans gL))).out
      have G7 := Lib.hid ((gV.trans GW.out).trans gB)
      have R7 := Lib.hid (HROW.out.grew gB)
      clear gB g7 gL
      go_wp2_with fail
      have hg3 := ((Grew.refl w7).alloc (.cells #[.int .u8 (k : Nat), .slice A6 ns.length k6] 34)).alloc (.cells #[.int .u8 (k : Nat), .slice A ns.length c] 34)
      refine (ref08_Same (.slice (some ⟨w7.heap.size, 0, none⟩) 1 1) (.slice (some ⟨w7.heap.size + 1, 0, none⟩) 1 1) [(k, ns)] _ (frames_mk (by simp; omega) (by simp [go_sem]) (by simp [go_sem]) (R7.out.grew hg3) hk) (frames_mk (by simp) (by simp [go_sem]) (by simp [go_sem]) (HRW.out.grew (G7.out.trans hg3)) hk) (by simp)).mono ?_
      rintro e w8 ⟨rfl, g8⟩
      go_wp2_with fail
      refine (HK _ (K.out _ _ ht (G7.out.trans (hg3.trans g8)))).out.mono ?_
      rintro e w9 ⟨rfl, g9⟩
      go_wp2_with fail
      go_ret
      exact ⟨rfl, (G7.out.trans (hg3.trans g8)).trans g9⟩
    · have hz : ¬ (frameErr k ns : Int) = 0 := by omega
      go_wp2_with fail
      refine (HK _ (K.out _ _ ht (gV.trans GV3.out))).out.mono ?_
      rintro e w4 ⟨rfl, g⟩
      go_wp2_with fail
      go_ret
      exact ⟨rfl, (gV.trans GV3.out).trans g⟩
end Go.Proofs.Ytkoklmecijejkaa
