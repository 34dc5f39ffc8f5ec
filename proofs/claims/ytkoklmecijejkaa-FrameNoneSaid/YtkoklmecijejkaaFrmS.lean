/-
  The document's frames: the bytes of the two kinds that count their bytes.
-/
import Derived.Test.YtkoklmecijejkaaFrmR
namespace Go.Proofs.Ytkoklmecijejkaa
open Go.RowKit
set_option linter.unusedVariables false

theorem own_base {B B' : Nat} {E : TypeId} {k : IntKind} {w : World} {v : Value} {ns : List Nat} (h : Own B E k w v ns) (hb : B' ≤ B) : Own B' E k w v ns := by
  obtain ⟨h1, h2⟩ := h
  refine ⟨h1, ?_⟩
  rcases h2 with h2 | ⟨b, cap, cur, e, hB, r⟩
  · exact .inl h2
  · exact .inr ⟨b, cap, cur, e, Nat.le_trans hb hB, r⟩
theorem fletB_lt (ns : List Nat) : fletB ns < 256 := by
  unfold fletB
  cases ns.length with
  | zero => simp [fletTo]
  | succ k => simp only [fletTo]; omega
set_option maxRecDepth 100000 in
set_option maxHeartbeats 2000000 in
theorem ref08_Bytes3 (fv : Value) (ns : List Nat) (w : World) (hR : Row .u8 w fv ns) (hB : Bytes ns) (hl : ns.length ≤ 5000) :
    Calls Try.prog 16 #[.agg #[.int .u8 3, fv]] w (BytesTells 3 ns w) := by
  obtain ⟨A, c, rfl, hc⟩ := hR.form
  by_cases hlong : 1023 < ns.length
  · have H := fun w' (g : Grew w w') => Lib.hid (bytesTells_no (k := 3) (ns := ns) 3 (by unfold frameErr; simp [hlong]) (by omega) g)
    go_enter Try.func16, Try.ntmps16
    go_wp2_with fail
    go_ret2
    exact (H _ ((Grew.refl w).alloc _)).out
  · have hE : frameErr 3 ns = 0 := by unfold frameErr; simp [hlong]
    have hx : fifOf ns < 32768 := by unfold fifOf; omega
    have HF := fun v w' (ho : Own w.heap.size 5 .u8 w' v (frameRow 3 ns)) g => Lib.hid (bytesTells_is hE ho g)
    simp only [frameRow, show ¬ (3 : Nat) = 1 by omega, show ¬ (3 : Nat) = 2 by omega, if_false] at HF
    have HX := fun w' (g : Grew w w') => Lib.hid (ref07_Fifteen _ ns w' (hR.grew g) hB (by omega))
    have HR := Lib.hid hR
    generalize fifOf ns = x at *
    clear hB hR hE
    go_enter Try.func16, Try.ntmps16
    go_wp2_with fail
    have G : Grew w (w.alloc (.cells #[.int .u8 3, .slice A ns.length c] 34)) := (Grew.refl w).alloc _
    have k1 : (w.alloc (.cells #[.int .u8 3, .slice A ns.length c] 34)).cell? ⟨w.heap.size, 1, none⟩ = some (.slice A ns.length c) := by simp
    generalize (w.alloc (.cells #[.int .u8 3, .slice A ns.length c] 34)) = W at *
    refine (HX _ G).out.mono ?_
    rintro e w1 ⟨rfl, rfl⟩
    have k2 := fun o => ((((Grew.refl W).alloc o).cell (p := ⟨w.heap.size, 1, none⟩) (World.block_lt_of_cell? W _ k1)).trans k1)
    have hs0 : w.heap.size ≤ W.heap.size := G.size
    have hO0 := own_lit (B := w.heap.size) W 5 #[.int .u8 160, .int .u8 162, .int .u8 ((ns.length : Int) / 256), .int .u8 ((ns.length : Int) % 256)] [160, 162, ns.length / 256, ns.length % 256] 4 hs0 (by simp [cellsOf]) rfl (by simp [maxLen])
    have k2' := k2 (.cells #[.int .u8 160, .int .u8 162, .int .u8 ((ns.length : Int) / 256), .int .u8 ((ns.length : Int) % 256)] 5)
    have G1 := G.alloc (.cells #[.int .u8 160, .int .u8 162, .int .u8 ((ns.length : Int) / 256), .int .u8 ((ns.length : Int) % 256)] 5)
    have hR1 := HR.out.grew G1
    clear k2 HR HX
    have HL := fun w' => Lib.hid (own_lit (B := 0) w' 5 #[.int .u8 ((x : Int) / 256), .int .u8 ((x : Int) % 256), .int .u8 176, .int .u8 179] [x / 256, x % 256, 176, 179] 4 (Nat.zero_le _) (by simp [cellsOf]) rfl (by simp [maxLen])).row
    go_wp2_with (first | (refine wpList_joinN _ rfl _ _ 23 rfl w.heap.size 5 .u8 1 Try.underlying23 infoU8 (.slice (some ⟨W.heap.size, 0, none⟩) 4 4) _ rfl hO0 _ ns rfl hR1 (by simp; omega) (by decide) (by have := G1.size; omega) ?_; intro v1 w1 hown hgrow hnil; have G2 := Grew.push G1 hO0 hgrow) | (refine wpList_joinN _ rfl _ _ 23 rfl w.heap.size 5 .u8 1 Try.underlying23 infoU8 v1 _ rfl (hown.alloc _) _ [x / 256, x % 256, 176, 179] rfl (HL w1).out (by simp; omega) (by decide) (by have := (G2.alloc (.cells #[] 5)).size; simp at this ⊢; omega) ?_; intro v2 w2 hown2 hgrow2 hnil2))
    go_ret2
    exact (HF _ _ (by rw [← List.append_assoc]; exact hown2) (Grew.push (G2.alloc _) (hown.alloc _) hgrow2)).out

set_option maxRecDepth 100000 in
set_option maxHeartbeats 2000000 in
theorem ref08_Bytes2 (fv : Value) (ns : List Nat) (w : World) (hR : Row .u8 w fv ns) (hB : Bytes ns) (hl : ns.length ≤ 5000) :
    Calls Try.prog 16 #[.agg #[.int .u8 2, fv]] w (BytesTells 2 ns w) := by
  obtain ⟨A, c, rfl, hc⟩ := hR.form
  by_cases hshort : ns.length < 2
  · have H := fun w' (g : Grew w w') => Lib.hid (bytesTells_no (k := 2) (ns := ns) 4 (by unfold frameErr; simp [hshort]) (by omega) g)
    go_enter Try.func16, Try.ntmps16
    go_wp2_with fail
    go_ret2
    exact (H _ ((Grew.refl w).alloc _)).out
  · by_cases hlong : 514 < ns.length
    · have H := fun w' (g : Grew w w') => Lib.hid (bytesTells_no (k := 2) (ns := ns) 3 (by unfold frameErr; simp [hshort, hlong]) (by omega) g)
      go_enter Try.func16, Try.ntmps16
      go_wp2_with fail
      go_ret2
      exact (H _ ((Grew.refl w).alloc _)).out
    · have hE : frameErr 2 ns = 0 := by unfold frameErr; simp [hshort, hlong]
      have HF := fun v w' (ho : Own w.heap.size 5 .u8 w' v (frameRow 2 ns)) g => Lib.hid (bytesTells_is hE ho g)
      have e2 : frameRow 2 ns = [181, 98] ++ ubxRow ns ++ [fletA (ubxRow ns), fletB (ubxRow ns)] := by unfold frameRow; simp
      rw [e2] at HF
      have hub : ubxRow ns = [wd ns 0, wd ns 1, (ns.length - 2) % 256, (ns.length - 2) / 256] ++ ns.drop 2 := rfl
      have hbu : Bytes (ubxRow ns) := by
        rw [hub]
        refine Bytes.of_mem (fun x hx => ?_)
        simp only [List.mem_append, List.mem_cons, List.not_mem_nil, or_false] at hx
        rcases hx with (rfl | rfl | rfl | rfl) | h
        · exact hB 0
        · exact hB 1
        · omega
        · omega
        · obtain ⟨i, hi, rfl⟩ := List.getElem_of_mem (List.mem_of_mem_drop h)
          have := hB i
          rwa [wd_lt hi] at this
      have hul : (ubxRow ns).length = ns.length + 2 := by rw [hub]; simp; omega
      have hfa : fletA (ubxRow ns) < 256 := by unfold fletA; omega
      have hfb := fletB_lt (ubxRow ns)
      have HX := fun v w' (h : Row .u8 w' v (ubxRow ns)) => Lib.hid (ref07_Fletcher v (ubxRow ns) w' h hbu (by omega))
      have hR' := hR
      obtain ⟨Ax, cx, e0, hcx, hr⟩ := hR'
      simp only [Value.slice.injEq] at e0
      obtain ⟨rfl, -, rfl⟩ := e0
      obtain ⟨rb, ro, rfl, hrb, hcell⟩ := hr (by omega)
      have y0 := hcell 0 (by omega)
      have y1 := hcell 1 (by omega)
      rw [Nat.add_zero] at y0
      have hcut := hR.cut 2 (by omega)
      have h0 := hB 0
      have h1 := hB 1
      have hn2 : (2 : Int) ≤ ns.length := by omega
      have hn0 : (0 : Int) < ns.length := by omega
      have hn1 : (1 : Int) < ns.length := by omega
      have p0 : 0 < ns.length := by omega
      have p1 : 1 < ns.length := by omega
      have p2 : 2 ≤ ns.length := by omega
      have p3 : 2 ≤ c := by omega
      have e1 : IntKind.i64.wrap ((ns.length : Int) - 2) = (ns.length : Int) - 2 := IntWalk.i64_in _ (by omega)
      have e3 : ((ns.length : Int) - 2).tmod 256 = (((ns.length - 2) % 256 : Nat) : Int) := by rw [Int.tmod_eq_emod_of_nonneg (by omega)]; omega
      have e4 : ((ns.length : Int) - 2).tdiv 256 = (((ns.length - 2) / 256 : Nat) : Int) := by rw [Int.tdiv_eq_ediv_of_nonneg (by omega)]; omega
      have b1 : (ns.length - 2) % 256 < 256 := by omega
      have b2 : (ns.length - 2) / 256 < 256 := by omega
      have HUB := Lib.hid hub
      have HUL := Lib.hid hul
      have HCUT := fun w' (g : Grew w w') => Lib.hid (hcut.grew g)
      have HY : ∀ w', Grew w w' → Hid (w'.cell? ⟨rb, ro, none⟩ = some (.int .u8 (wd ns 0 : Nat)) ∧ w'.cell? ⟨rb, ro + 1, none⟩ = some (.int .u8 (wd ns 1 : Nat))) := fun w' g => Lib.hid ⟨(g.cell (p := ⟨rb, ro, none⟩) hrb).trans y0, (g.cell (p := ⟨rb, ro + 1, none⟩) hrb).trans y1⟩
      clear hub hul hcut y0 y1 hcell hr hR hE e2 hbu hB hrb hcx
      generalize ubxRow ns = u at *
      generalize fletA u = fa at *
      generalize fletB u = fb at *
      generalize wd ns 0 = x0 at *
      generalize wd ns 1 = x1 at *
      generalize (ns.length - 2) % 256 = m1 at *
      generalize (ns.length - 2) / 256 = m2 at *
      have e5 : IntKind.u8.wrap (m1 : Int) = m1 := IntWalk.u8_in _ (by omega)
      have e6 : IntKind.u8.wrap (m2 : Int) = m2 := IntWalk.u8_in _ (by omega)
      have e7 : IntKind.i64.wrap (m2 : Int) = m2 := IntWalk.i64_in _ (by omega)
      have HO := fun B w' hB => Lib.hid ((own_lit (B := B) w' 5 #[.int .u8 x0, .int .u8 x1, .int .u8 m1, .int .u8 m2] [x0, x1, m1, m2] 4 hB rfl rfl (by simp [maxLen])).drew)
      rcases Decidable.em (c = 2) with hc2 | hc2
      · subst hc2
        simp only [if_true, show ns.length - 2 = 0 by omega, Nat.sub_self] at HCUT
        go_enter Try.func16, Try.ntmps16
        go_wp2_with fail
        have G : Grew w (w.alloc (.cells #[.int .u8 2, .slice (some ⟨rb, ro, none⟩) ns.length 2] 34)) := (Grew.refl w).alloc _
        have k1 : (w.alloc (.cells #[.int .u8 2, .slice (some ⟨rb, ro, none⟩) ns.length 2] 34)).cell? ⟨w.heap.size, 1, none⟩ = some (.slice (some ⟨rb, ro, none⟩) ns.length 2) := by simp
        generalize (w.alloc (.cells #[.int .u8 2, .slice (some ⟨rb, ro, none⟩) ns.length 2] 34)) = W at *
        have hws := World.block_lt_of_cell? W _ k1
        have KS : ∀ w', Grew W w' → Hid (w'.cell? ⟨w.heap.size, 1, none⟩ = some (.slice (some ⟨rb, ro, none⟩) ns.length 2) ∧ w'.cell? ⟨rb, ro, none⟩ = some (.int .u8 x0) ∧ w'.cell? ⟨rb, ro + 1, none⟩ = some (.int .u8 x1)) := fun w' g =>
          Lib.hid ⟨(g.cell (p := ⟨w.heap.size, 1, none⟩) hws).trans k1, (HY w' (G.trans g)).out.1, (HY w' (G.trans g)).out.2⟩
        have HO1 := HO W.heap.size W (Nat.le_refl _)
        have GW := ((Grew.refl W).alloc (.cells #[.int .u8 x0, .int .u8 x1, .int .u8 m1, .int .u8 m2] 5)).drew
        have HC := HCUT _ (G.trans GW)
        clear HY HO HCUT
        go_region_held3 (fun w' => w'.cell? ⟨w.heap.size, 1, none⟩ = some (.slice (some ⟨rb, ro, none⟩) ns.length 2) ∧ w'.cell? ⟨rb, ro, none⟩ = some (.int .u8 x0) ∧ w'.cell? ⟨rb, ro + 1, none⟩ = some (.int .u8 x1)) (first | exact (KS _ D).out | exact (KS _ GW).out | exact (KS _ (Grew.refl W).drew).out) (first | (refine step_joinN _ rfl _ _ 23 rfl W.heap.size 5 .u8 1 Try.underlying23 infoU8 _ _ rfl HO1.out _ (ns.drop 2) rfl HC.out (by simp; omega) (by decide) GW.size ?_; intro v1 w1 hown hgrow hnil; have D := Grew.push GW HO1.out hgrow))
        rw [← HUB.out] at hown
        have GD := G.trans D
        have hO1 := own_base hown G.size
        have HL1 := own_lit (B := w.heap.size) w1 5 #[.int .u8 181, .int .u8 98] [181, 98] 2 GD.size rfl rfl (by simp [maxLen])
        have HL2 := fun w' => Lib.hid (own_lit (B := 0) w' 5 #[.int .u8 fa, .int .u8 fb] [fa, fb] 2 (Nat.zero_le _) rfl rfl (by simp [maxLen])).row
        have hR1 := (hO1.alloc (.cells #[.int .u8 181, .int .u8 98] 5)).row
        have G1 := GD.alloc (.cells #[.int .u8 181, .int .u8 98] 5)
        have HX1 := HX _ _ hO1.row
        have hul := HUL.out
        clear KS HO1 GW HC HX HUB hgrow hnil hown G D k1 hws HUL e1 e3 e4 e5 e6 e7 b1 b2 p0 p1 p2 p3 hn0 hn1 hn2 h0 h1
        go_wp2_with fail
        refine HX1.out.mono ?_
        rintro e w2 ⟨rfl, rfl⟩
        go_wp2_with (first | (refine wpList_joinN _ rfl _ _ 23 rfl w.heap.size 5 .u8 1 Try.underlying23 infoU8 (.slice (some ⟨w1.heap.size, 0, none⟩) 2 2) _ rfl HL1 _ u rfl hR1 (by simp; omega) (by decide) G1.size ?_; intro v2 w2 hown hgrow hnil; have G2 := Grew.push G1 HL1 hgrow) | (refine wpList_joinN _ rfl _ _ 23 rfl w.heap.size 5 .u8 1 Try.underlying23 infoU8 v2 _ rfl (hown.alloc _) _ [fa, fb] rfl (HL2 w2).out (by simp; omega) (by decide) (by have := (G2.alloc (.cells #[] 5)).size; simp at this ⊢; omega) ?_; intro v3 w3 hown2 hgrow2 hnil2))
        go_ret2
        exact (HF _ _ hown2 (Grew.push (G2.alloc _) (hown.alloc _) hgrow2)).out
      · simp only [if_neg hc2] at HCUT
        go_enter Try.func16, Try.ntmps16
        go_wp2_with fail
        have G : Grew w (w.alloc (.cells #[.int .u8 2, .slice (some ⟨rb, ro, none⟩) ns.length c] 34)) := (Grew.refl w).alloc _
        have k1 : (w.alloc (.cells #[.int .u8 2, .slice (some ⟨rb, ro, none⟩) ns.length c] 34)).cell? ⟨w.heap.size, 1, none⟩ = some (.slice (some ⟨rb, ro, none⟩) ns.length c) := by simp
        generalize (w.alloc (.cells #[.int .u8 2, .slice (some ⟨rb, ro, none⟩) ns.length c] 34)) = W at *
        have hws := World.block_lt_of_cell? W _ k1
        have KS : ∀ w', Grew W w' → Hid (w'.cell? ⟨w.heap.size, 1, none⟩ = some (.slice (some ⟨rb, ro, none⟩) ns.length c) ∧ w'.cell? ⟨rb, ro, none⟩ = some (.int .u8 x0) ∧ w'.cell? ⟨rb, ro + 1, none⟩ = some (.int .u8 x1)) := fun w' g =>
          Lib.hid ⟨(g.cell (p := ⟨w.heap.size, 1, none⟩) hws).trans k1, (HY w' (G.trans g)).out.1, (HY w' (G.trans g)).out.2⟩
        have HO1 := HO W.heap.size W (Nat.le_refl _)
        have GW := ((Grew.refl W).alloc (.cells #[.int .u8 x0, .int .u8 x1, .int .u8 m1, .int .u8 m2] 5)).drew
        have HC := HCUT _ (G.trans GW)
        clear HY HO HCUT
        go_region_held3 (fun w' => w'.cell? ⟨w.heap.size, 1, none⟩ = some (.slice (some ⟨rb, ro, none⟩) ns.length c) ∧ w'.cell? ⟨rb, ro, none⟩ = some (.int .u8 x0) ∧ w'.cell? ⟨rb, ro + 1, none⟩ = some (.int .u8 x1)) (first | exact (KS _ D).out | exact (KS _ GW).out | exact (KS _ (Grew.refl W).drew).out) (first | (refine step_joinN _ rfl _ _ 23 rfl W.heap.size 5 .u8 1 Try.underlying23 infoU8 _ _ rfl HO1.out _ (ns.drop 2) rfl HC.out (by simp; omega) (by decide) GW.size ?_; intro v1 w1 hown hgrow hnil; have D := Grew.push GW HO1.out hgrow))
        rw [← HUB.out] at hown
        have GD := G.trans D
        have hO1 := own_base hown G.size
        have HL1 := own_lit (B := w.heap.size) w1 5 #[.int .u8 181, .int .u8 98] [181, 98] 2 GD.size rfl rfl (by simp [maxLen])
        have HL2 := fun w' => Lib.hid (own_lit (B := 0) w' 5 #[.int .u8 fa, .int .u8 fb] [fa, fb] 2 (Nat.zero_le _) rfl rfl (by simp [maxLen])).row
        have hR1 := (hO1.alloc (.cells #[.int .u8 181, .int .u8 98] 5)).row
        have G1 := GD.alloc (.cells #[.int .u8 181, .int .u8 98] 5)
        have HX1 := HX _ _ hO1.row
        have hul := HUL.out
        clear KS HO1 GW HC HX HUB hgrow hnil hown G D k1 hws HUL e1 e3 e4 e5 e6 e7 b1 b2 p0 p1 p2 p3 hn0 hn1 hn2 h0 h1
        go_wp2_with fail
        refine HX1.out.mono ?_
        rintro e w2 ⟨rfl, rfl⟩
        go_wp2_with (first | (refine wpList_joinN _ rfl _ _ 23 rfl w.heap.size 5 .u8 1 Try.underlying23 infoU8 (.slice (some ⟨w1.heap.size, 0, none⟩) 2 2) _ rfl HL1 _ u rfl hR1 (by simp; omega) (by decide) G1.size ?_; intro v2 w2 hown hgrow hnil; have G2 := Grew.push G1 HL1 hgrow) | (refine wpList_joinN _ rfl _ _ 23 rfl w.heap.size 5 .u8 1 Try.underlying23 infoU8 v2 _ rfl (hown.alloc _) _ [fa, fb] rfl (HL2 w2).out (by simp; omega) (by decide) (by have := (G2.alloc (.cells #[] 5)).size; simp at this ⊢; omega) ?_; intro v3 w3 hown2 hgrow2 hnil2))
        go_ret2
        exact (HF _ _ hown2 (Grew.push (G2.alloc _) (hown.alloc _) hgrow2)).out
end Go.Proofs.Ytkoklmecijejkaa
