/-
  The program's frames: the bytes of the two kinds that count their bytes; a frame's bytes, whole.
-/
import Derived.Test.YtlcmjedbdopglaaGreatDoorFrpG
namespace Go.Proofs.YtlcmjedbdopglaaGreatDoor
open Go.RowKit
set_option linter.unusedVariables false

set_option maxRecDepth 100000 in
set_option maxHeartbeats 2000000 in
theorem prog_sirfBytes (v : Value) (ns : List Nat) (w : World) (hR : Row .u8 w v ns) (hB : Bytes ns) (hl : ns.length ≤ 5000) :
    Calls Tryz.prog 41 #[v] w (BytesTells 3 ns w) := by
  obtain ⟨A, c, rfl, hc⟩ := hR.form
  by_cases hlong : 1023 < ns.length
  · have H := fun w' (g : Grew w w') => Lib.hid (bytesTells_no (k := 3) (ns := ns) 3 (by unfold frameErr; simp [hlong]) (by omega) g)
    go_enter Tryz.func41, Tryz.ntmps41
    go_wp2_with fail
    go_ret2
    exact (H _ (Grew.refl w)).out
  · have hE : frameErr 3 ns = 0 := by unfold frameErr; simp [hlong]
    have hx : fifOf ns < 32768 := by unfold fifOf; omega
    have HF := fun v w' (ho : Own w.heap.size 5 .u8 w' v (frameRow 3 ns)) g => Lib.hid (bytesTells_is hE ho g)
    simp only [frameRow, show ¬ (3 : Nat) = 1 by omega, show ¬ (3 : Nat) = 2 by omega, if_false] at HF
    have HX := fun w' (g : Grew w w') => Lib.hid (sums_Fifteen _ ns w' (hR.grew g) hB (by omega))
    have HR := Lib.hid hR
    generalize fifOf ns = x at *
    clear hB hR hE
    go_enter Tryz.func41, Tryz.ntmps41
    go_wp2_with fail
    refine (HX _ (Grew.refl w)).out.mono ?_
    rintro e W ⟨rfl, G⟩
    have hs0 : w.heap.size ≤ W.heap.size := G.size
    have hO0 := own_lit (B := w.heap.size) W 5 #[.int .u8 160, .int .u8 162, .int .u8 ((ns.length : Int) / 256), .int .u8 ((ns.length : Int) % 256)] [160, 162, ns.length / 256, ns.length % 256] 4 hs0 (by simp [cellsOf]) rfl (by simp [maxLen])
    have G1 := G.alloc (.cells #[.int .u8 160, .int .u8 162, .int .u8 ((ns.length : Int) / 256), .int .u8 ((ns.length : Int) % 256)] 5)
    have hR1 := HR.out.grew G1
    clear HR HX
    have HL := fun w' => Lib.hid (own_lit (B := 0) w' 5 #[.int .u8 ((x : Int) / 256), .int .u8 ((x : Int) % 256), .int .u8 176, .int .u8 179] [x / 256, x % 256, 176, 179] 4 (Nat.zero_le _) (by simp [cellsOf]) rfl (by simp [maxLen])).row
    go_wp2_with (first | (refine wpList_joinN _ rfl _ _ 22 rfl w.heap.size 5 .u8 1 Tryz.underlying22 infoU8 (.slice (some ⟨W.heap.size, 0, none⟩) 4 4) _ rfl hO0 _ ns rfl hR1 (by simp; omega) (by decide) (by have := G1.size; omega) ?_; intro v1 w1 hown hgrow hnil; have G2 := Grew.push G1 hO0 hgrow) | (refine wpList_joinN _ rfl _ _ 22 rfl w.heap.size 5 .u8 1 Tryz.underlying22 infoU8 v1 _ rfl (hown.alloc _) _ [x / 256, x % 256, 176, 179] rfl (HL w1).out (by simp; omega) (by decide) (by have := (G2.alloc (.cells #[] 5)).size; simp at this ⊢; omega) ?_; intro v2 w2 hown2 hgrow2 hnil2))
    go_ret2
    exact (HF _ _ (by rw [← List.append_assoc]; exact hown2) (Grew.push (G2.alloc _) (hown.alloc _) hgrow2)).out

set_option maxRecDepth 100000 in
set_option maxHeartbeats 2000000 in
theorem prog_ubxBytes (v : Value) (ns : List Nat) (w : World) (hR : Row .u8 w v ns) (hB : Bytes ns) (hl : ns.length ≤ 5000) :
    Calls Tryz.prog 40 #[v] w (BytesTells 2 ns w) := by
  obtain ⟨A, c, rfl, hc⟩ := hR.form
  by_cases hshort : ns.length < 2
  · have H := fun w' (g : Grew w w') => Lib.hid (bytesTells_no (k := 2) (ns := ns) 4 (by unfold frameErr; simp [hshort]) (by omega) g)
    have e1 : IntKind.i64.wrap ((ns.length : Int) - 2) = (ns.length : Int) - 2 := IntWalk.i64_in _ (by omega)
    have c1 : (ns.length : Int) - 2 < 0 := by omega
    go_enter Tryz.func40, Tryz.ntmps40
    go_wp2_with fail
    go_ret2
    exact (H _ (Grew.refl w)).out
  · by_cases hlong : 514 < ns.length
    · have H := fun w' (g : Grew w w') => Lib.hid (bytesTells_no (k := 2) (ns := ns) 3 (by unfold frameErr; simp [hshort, hlong]) (by omega) g)
      have e1 : IntKind.i64.wrap ((ns.length : Int) - 2) = (ns.length : Int) - 2 := IntWalk.i64_in _ (by omega)
      have c1 : ¬ (ns.length : Int) - 2 < 0 := by omega
      have c2 : (512 : Int) < (ns.length : Int) - 2 := by omega
      go_enter Tryz.func40, Tryz.ntmps40
      go_wp2_with fail
      go_ret2
      exact (H _ (Grew.refl w)).out
    · have hE : frameErr 2 ns = 0 := by unfold frameErr; simp [hshort, hlong]
      have HF := fun v w' (ho : Own w.heap.size 5 .u8 w' v (frameRow 2 ns)) g => Lib.hid (bytesTells_is hE ho g)
      have hub : ubxRow ns = [wd ns 0, wd ns 1, (ns.length - 2) % 256, (ns.length - 2) / 256] ++ ns.drop 2 := rfl
      have e2 : frameRow 2 ns = [181, 98, wd ns 0, wd ns 1, (ns.length - 2) % 256, (ns.length - 2) / 256] ++ ns.drop 2 ++ [fletA (ubxRow ns), fletB (ubxRow ns)] := by unfold frameRow; rw [hub]; simp
      have e3 : ([181, 98, wd ns 0, wd ns 1, (ns.length - 2) % 256, (ns.length - 2) / 256] ++ ns.drop 2).drop 2 = ubxRow ns := by rw [hub]; rfl
      rw [e2] at HF
      have hbu : Bytes (ubxRow ns) := by
        rw [hub]
        refine Bytes.of_mem (fun x hx => ?_)
        simp only [List.mem_append, List.mem_cons, List.not_mem_nil, or_false] at hx
        rcases hx with (rfl | rfl | rfl | rfl) | h
        · exact hB 0
        · exact hB 1
        · omega
        · omega
        · obtain ⟨i, hi, rfl⟩ := List.getElem_of_mem (List.mem_of_mem_drop h)
          have := hB i
          rwa [wd_lt hi] at this
      have hul : (ubxRow ns).length = ns.length + 2 := by rw [hub]; simp; omega
      have hfa : fletA (ubxRow ns) < 256 := by unfold fletA; omega
      have hfb := fletB_lt (ubxRow ns)
      have HX := fun v w' (h : Row .u8 w' v (ubxRow ns)) => Lib.hid (sums_Fletcher v (ubxRow ns) w' h hbu (by omega))
      have hR' := hR
      obtain ⟨Ax, cx, e0, hcx, hr⟩ := hR'
      simp only [Value.slice.injEq] at e0
      obtain ⟨rfl, -, rfl⟩ := e0
      obtain ⟨rb, ro, rfl, hrb, hcell⟩ := hr (by omega)
      have y0 := hcell 0 (by omega)
      have y1 := hcell 1 (by omega)
      rw [Nat.add_zero] at y0
      have hcut := hR.cut 2 (by omega)
      have h0 := hB 0
      have h1 := hB 1
      have hn2 : (2 : Int) ≤ ns.length := by omega
      have hn0 : (0 : Int) < ns.length := by omega
      have hn1 : (1 : Int) < ns.length := by omega
      have p0 : 0 < ns.length := by omega
      have p1 : 1 < ns.length := by omega
      have p2 : 2 ≤ ns.length := by omega
      have p3 : 2 ≤ c := by omega
      have e1 : IntKind.i64.wrap ((ns.length : Int) - 2) = ((ns.length - 2 : Nat) : Int) := by rw [IntWalk.i64_in _ (by omega)]; omega
      have c1 : ¬ ((ns.length - 2 : Nat) : Int) < 0 := by omega
      have c2 : ¬ (512 : Int) < ((ns.length - 2 : Nat) : Int) := by omega
      have e5 : IntKind.u8.wrap ((ns.length - 2 : Nat) : Int) = (((ns.length - 2) % 256 : Nat) : Int) := by rw [wrap_u8]; omega
      have e4 : ((ns.length - 2 : Nat) : Int) / 256 = (((ns.length - 2) / 256 : Nat) : Int) := by omega
      have b1 : (ns.length - 2) % 256 < 256 := by omega
      have b2 : (ns.length - 2) / 256 < 256 := by omega
      have hmm : ns.length - 2 ≤ 512 := by omega
      have HCUT := fun w' (g : Grew w w') => Lib.hid (hcut.grew g)
      have HLD : Hid ((ns.drop 2).length ≤ 512) := by show _ ≤ _; rw [List.length_drop]; omega
      have HY : ∀ w', Grew w w' → Hid (w'.cell? ⟨rb, ro, none⟩ = some (.int .u8 (wd ns 0 : Nat)) ∧ w'.cell? ⟨rb, ro + 1, none⟩ = some (.int .u8 (wd ns 1 : Nat))) := fun w' g => Lib.hid ⟨(g.cell (p := ⟨rb, ro, none⟩) hrb).trans y0, (g.cell (p := ⟨rb, ro + 1, none⟩) hrb).trans y1⟩
      clear hub hcut y0 y1 hcell hr hR hE e2 hbu hB hrb hcx hul
      have E3 := Lib.hid e3
      clear e3
      generalize ubxRow ns = u at *
      generalize fletA u = fa at *
      generalize fletB u = fb at *
      generalize wd ns 0 = x0 at *
      generalize wd ns 1 = x1 at *
      generalize (ns.length - 2) % 256 = m1 at *
      generalize (ns.length - 2) / 256 = m2 at *
      have HN : Hid (ns.length - 2 = ns.length - 2) := rfl
      generalize hNM : ns.length - 2 = nm at *
      have e6 : IntKind.u8.wrap (m2 : Int) = m2 := IntWalk.u8_in _ (by omega)
      have HO := fun B w' hB => Lib.hid ((own_lit (B := B) w' 5 #[.int .u8 181, .int .u8 98, .int .u8 x0, .int .u8 x1, .int .u8 m1, .int .u8 m2] [181, 98, x0, x1, m1, m2] 6 hB rfl rfl (by simp [maxLen])).drew)
      rcases Decidable.em (c = 2) with hc2 | hc2
      · subst hc2
        simp only [if_true, Nat.sub_self] at HCUT
        go_enter Tryz.func40, Tryz.ntmps40
        go_wp2_with fail
        have KS : ∀ w', Grew w w' → Hid (w'.cell? ⟨rb, ro, none⟩ = some (.int .u8 x0) ∧ w'.cell? ⟨rb, ro + 1, none⟩ = some (.int .u8 x1)) := HY
        have HO1 := HO w.heap.size w (Nat.le_refl _)
        have GW := ((Grew.refl w).alloc (.cells #[.int .u8 181, .int .u8 98, .int .u8 x0, .int .u8 x1, .int .u8 m1, .int .u8 m2] 5)).drew
        have HC := HCUT _ GW
        clear HY HO HCUT
        go_region_held3 (fun w' => w'.cell? ⟨rb, ro, none⟩ = some (.int .u8 x0) ∧ w'.cell? ⟨rb, ro + 1, none⟩ = some (.int .u8 x1)) (first | exact (KS _ D).out | exact (KS _ GW).out | exact (KS _ (Grew.refl w).drew).out) (first | (refine step_joinN _ rfl _ _ 22 rfl w.heap.size 5 .u8 1 Tryz.underlying22 infoU8 (.slice (some ⟨w.heap.size, 0, none⟩) 6 6) _ rfl HO1.out _ (ns.drop 2) rfl HC.out (by have := HLD.out; simp only [List.length_cons, List.length_nil]; omega) (by decide) GW.size ?_; intro v1 w1 hown hgrow hnil; have D := Grew.push GW HO1.out hgrow))
        obtain ⟨g1, c1, rfl, hg1, hl1, hm1⟩ := hown.head (hnil (by simp))
        obtain ⟨M, hM⟩ : ∃ M, ([181, 98, x0, x1, m1, m2] ++ ns.drop 2).length = M := ⟨_, rfl⟩
        have hM6 : 6 ≤ M ∧ M ≤ 518 := by have := HLD.out; rw [List.length_append] at hM; simp only [List.length_cons, List.length_nil] at hM; omega
        have hcut := hown.row
        rw [hM] at hcut hm1 hown
        have hcut := hcut.cut 2 (by rw [hM]; omega)
        rw [E3.out, if_neg (by omega : ¬ c1 = 2), Nat.zero_add] at hcut
        rw [hM]
        have HX1 := HX _ _ hcut
        have HL2 := fun w' => Lib.hid (own_lit (B := 0) w' 5 #[.int .u8 fa, .int .u8 fb] [fa, fb] 2 (Nat.zero_le _) rfl rfl (by simp [maxLen])).row
        have q1 : 2 ≤ M := by omega
        have q2 : 2 ≤ c1 := by omega
        have q3 : ¬ c1 = 2 := by omega
        have q4 : (2 : Int) ≤ M := by omega
        have HM := Lib.hid hM
        have HM6 := Lib.hid hM6
        have HOW := Lib.hid hown
        have HD := Lib.hid D
        clear KS HO1 GW HC HX hgrow hnil hcut hown D e1 e4 e5 e6 b1 b2 p0 p1 p2 p3 hn0 hn1 hn2 h0 h1 hM hM6 hmm hNM HN E3
        go_wp2_with fail
        refine HX1.out.mono ?_
        rintro e w2 ⟨rfl, gg2⟩
        have G2 := HD.out.trans gg2
        have hown := HOW.out.grew gg2
        go_wp2_with (refine wpList_joinN _ rfl _ _ 22 rfl w.heap.size 5 .u8 1 Tryz.underlying22 infoU8 (.slice (some ⟨g1, 0, none⟩) M c1) _ rfl (hown.alloc _) _ [fa, fb] rfl (HL2 w2).out (by have := HM.out; have := HM6.out; simp only [List.length_cons, List.length_nil]; omega) (by decide) (by have := (G2.alloc (.cells #[] 5)).size; simp at this ⊢; omega) ?_; intro v3 w3 hown2 hgrow2 hnil2)
        go_ret2
        exact (HF _ _ hown2 (Grew.push (G2.alloc _) (hown.alloc _) hgrow2)).out
      · simp only [if_neg hc2] at HCUT
        go_enter Tryz.func40, Tryz.ntmps40
        go_wp2_with fail
        have KS : ∀ w', Grew w w' → Hid (w'.cell? ⟨rb, ro, none⟩ = some (.int .u8 x0) ∧ w'.cell? ⟨rb, ro + 1, none⟩ = some (.int .u8 x1)) := HY
        have HO1 := HO w.heap.size w (Nat.le_refl _)
        have GW := ((Grew.refl w).alloc (.cells #[.int .u8 181, .int .u8 98, .int .u8 x0, .int .u8 x1, .int .u8 m1, .int .u8 m2] 5)).drew
        have HC := HCUT _ GW
        clear HY HO HCUT
        go_region_held3 (fun w' => w'.cell? ⟨rb, ro, none⟩ = some (.int .u8 x0) ∧ w'.cell? ⟨rb, ro + 1, none⟩ = some (.int .u8 x1)) (first | exact (KS _ D).out | exact (KS _ GW).out | exact (KS _ (Grew.refl w).drew).out) (first | (refine step_joinN _ rfl _ _ 22 rfl w.heap.size 5 .u8 1 Tryz.underlying22 infoU8 (.slice (some ⟨w.heap.size, 0, none⟩) 6 6) _ rfl HO1.out _ (ns.drop 2) rfl HC.out (by have := HLD.out; simp only [List.length_cons, List.length_nil]; omega) (by decide) GW.size ?_; intro v1 w1 hown hgrow hnil; have D := Grew.push GW HO1.out hgrow))
        obtain ⟨g1, c1, rfl, hg1, hl1, hm1⟩ := hown.head (hnil (by simp))
        obtain ⟨M, hM⟩ : ∃ M, ([181, 98, x0, x1, m1, m2] ++ ns.drop 2).length = M := ⟨_, rfl⟩
        have hM6 : 6 ≤ M ∧ M ≤ 518 := by have := HLD.out; rw [List.length_append] at hM; simp only [List.length_cons, List.length_nil] at hM; omega
        have hcut := hown.row
        rw [hM] at hcut hm1 hown
        have hcut := hcut.cut 2 (by rw [hM]; omega)
        rw [E3.out, if_neg (by omega : ¬ c1 = 2), Nat.zero_add] at hcut
        rw [hM]
        have HX1 := HX _ _ hcut
        have HL2 := fun w' => Lib.hid (own_lit (B := 0) w' 5 #[.int .u8 fa, .int .u8 fb] [fa, fb] 2 (Nat.zero_le _) rfl rfl (by simp [maxLen])).row
        have q1 : 2 ≤ M := by omega
        have q2 : 2 ≤ c1 := by omega
        have q3 : ¬ c1 = 2 := by omega
        have q4 : (2 : Int) ≤ M := by omega
        have HM := Lib.hid hM
        have HM6 := Lib.hid hM6
        have HOW := Lib.hid hown
        have HD := Lib.hid D
        clear KS HO1 GW HC HX hgrow hnil hcut hown D e1 e4 e5 e6 b1 b2 p0 p1 p2 p3 hn0 hn1 hn2 h0 h1 hM hM6 hmm hNM HN E3
        go_wp2_with fail
        refine HX1.out.mono ?_
        rintro e w2 ⟨rfl, gg2⟩
        have G2 := HD.out.trans gg2
        have hown := HOW.out.grew gg2
        go_wp2_with (refine wpList_joinN _ rfl _ _ 22 rfl w.heap.size 5 .u8 1 Tryz.underlying22 infoU8 (.slice (some ⟨g1, 0, none⟩) M c1) _ rfl (hown.alloc _) _ [fa, fb] rfl (HL2 w2).out (by have := HM.out; have := HM6.out; simp only [List.length_cons, List.length_nil]; omega) (by decide) (by have := (G2.alloc (.cells #[] 5)).size; simp at this ⊢; omega) ?_; intro v3 w3 hown2 hgrow2 hnil2)
        go_ret2
        exact (HF _ _ hown2 (Grew.push (G2.alloc _) (hown.alloc _) hgrow2)).out

theorem prog_Bytes (k : Nat) (fv : Value) (ns : List Nat) (w : World) (hR : Row .u8 w fv ns) (hB : Bytes ns) (hl : ns.length ≤ 5000) (hk : k < 256) :
    Calls Tryz.prog 25 #[.agg #[.int .u8 (k : Nat), fv]] w (BytesTells k ns w) := by
  obtain ⟨A, c, rfl, hc⟩ := hR.form
  have G1 := fun (x : Nat) => (Grew.refl w).alloc (.cells #[.int .u8 x, .slice A ns.length c] 51)
  have up : ∀ {x : Nat} {e : Ending} {w1 w2 : World}, Grew w w1 → BytesTells x ns w1 e w2 → BytesTells x ns w e w2 := fun g ⟨v, h1, h2, h3⟩ => ⟨v, h1, own_base h2 g.size, g.trans h3⟩
  by_cases h1 : k = 1
  · subst h1
    have H := Lib.hid (prog_nmeaBytes _ ns _ (hR.grew (G1 1)) hB hl)
    clear hR
    go_enter Tryz.func25, Tryz.ntmps25
    go_wp2_with fail
    refine H.out.mono ?_
    rintro e w1 h
    have h := up (G1 1) h
    obtain ⟨v, rfl, ho, g⟩ := h
    go_wp2_with fail
    go_ret2
    exact ⟨v, rfl, ho, g⟩
  · by_cases h2 : k = 2
    · subst h2
      have H := Lib.hid (prog_ubxBytes _ ns _ (hR.grew (G1 2)) hB hl)
      clear hR h1
      go_enter Tryz.func25, Tryz.ntmps25
      go_wp2_with fail
      refine H.out.mono ?_
      rintro e w1 h
      have h := up (G1 2) h
      obtain ⟨v, rfl, ho, g⟩ := h
      go_wp2_with fail
      go_ret2
      exact ⟨v, rfl, ho, g⟩
    · by_cases h3 : k = 3
      · subst h3
        have H := Lib.hid (prog_sirfBytes _ ns _ (hR.grew (G1 3)) hB hl)
        clear hR h1 h2
        go_enter Tryz.func25, Tryz.ntmps25
        go_wp2_with fail
        refine H.out.mono ?_
        rintro e w1 h
        have h := up (G1 3) h
        obtain ⟨v, rfl, ho, g⟩ := h
        go_wp2_with fail
        go_ret2
        exact ⟨v, rfl, ho, g⟩
      · have he : frameErr k ns = 2 := by unfold frameErr; rw [if_neg h1, if_neg h2, if_neg h3]
        have H := fun w' (g : Grew w w') => Lib.hid (bytesTells_no 2 he (by omega) g)
        have k1 : ¬ (k : Int) = 1 := by omega
        have k2 : ¬ (k : Int) = 2 := by omega
        have k3 : ¬ (k : Int) = 3 := by omega
        clear he h1 h2 h3 hR
        go_enter Tryz.func25, Tryz.ntmps25
        go_wp2_with fail
        go_ret2
        exact (H _ ((Grew.refl w).alloc _)).out
end Go.Proofs.YtlcmjedbdopglaaGreatDoor
