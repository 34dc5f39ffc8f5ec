/-
  The walk of the law on one byte, out of the program's contracts.
-/
import Derived.Test.YtjgmlfglfpihjaaSumL
namespace Go.Proofs.Ytjgmlfglfpihjaa
open Go.RowKit
set_option linter.unusedVariables false

theorem bytes_word (ns : List Nat) (C : Nat) (hB : Bytes ns) : Bytes (ns ++ leWord C) := fun i => by
  by_cases h : i < ns.length
  · rw [wd_append_left h]; exact hB i
  · obtain ⟨k, rfl⟩ : ∃ k, i = ns.length + k := ⟨i - ns.length, by omega⟩
    rw [wd_append_right]
    exact Bytes.of_mem (by intro x hx; simp [leWord] at hx; omega) k
theorem row_lit4 (W : World) (E : TypeId) (k : IntKind) (a b c d : Int) (n0 n1 n2 n3 : Nat) (h0 : a = n0) (h1 : b = n1) (h2 : c = n2) (h3 : d = n3) :
    Row k (W.alloc (.cells #[.int k a, .int k b, .int k c, .int k d] E)) (.slice (some ⟨W.heap.size, 0, none⟩) 4 4) [n0, n1, n2, n3] := by
  subst h0 h1 h2 h3
  refine Row.of_block (ns := [n0, n1, n2, n3]) (heap_alloc_new W _) (fun i hi => ?_) 4 (by simp)
  have : i = 0 ∨ i = 1 ∨ i = 2 ∨ i = 3 := by simp at hi; omega
  rcases this with rfl | rfl | rfl | rfl <;> rfl

set_option maxRecDepth 100000 in
set_option maxHeartbeats 2000000 in
theorem walk_SumsOne {T : World → Prop} (P : SumCalls T) (v : Value) (ns : List Nat) (at_ : Int) (x : Nat) (w : World) (ht : T w) (hR : Row .u8 w v ns) (hB : Bytes ns) (hl : ns.length ≤ maxLen) (ha : -9223372036854775808 ≤ at_ ∧ at_ ≤ 9223372036854775807) (hx : x < 256) :
    Calls Try.prog 4 #[v, .int .i64 at_, .int .u8 (x : Nat)] w fun e w' => e = .returned (.bool true) ∧ Grew w w' := by
  have HK := fun w ht => Lib.hid (sums_known P w ht)
  have K := Lib.hid P.keep
  have G := Grew.refl w
  unfold maxLen at hl
  obtain ⟨A, c, rfl, hc⟩ := hR.form
  by_cases hlt : 2000 < ns.length
  · go_enter Try.func4, Try.ntmps4
    go_wp2_with fail
    refine (HK _ (K.out _ _ ht G)).out.mono ?_
    rintro e w1 ⟨rfl, g⟩
    go_wp2_with fail
    go_ret
    exact ⟨rfl, g⟩
  · have H0 := Lib.hid (P.crc _ ns w hR hB (by omega) ht)
    have hcl : crcOf ns < 4294967296 := by unfold crcOf; omega
    have HS := Lib.hid (crc_self ns hB)
    have hO := fun (W : World) => Own.lit W .u8 5 W.heap.size (Nat.le_refl _) [] (by decide)
    obtain ⟨C, HC⟩ : ∃ C, Hid (crcOf ns = C) := ⟨_, Lib.hid rfl⟩
    rw [HC.out] at H0 hcl HS
    go_enter Try.func4, Try.ntmps4
    go_wp2_with fail
    refine H0.out.mono ?_
    rintro e w1 ⟨rfl, g1⟩
    replace G := G.trans g1
    have G0 := G.alloc (.cells #[] 5)
    have hR0 := hR.grew G0
    have hO1 := hO w1
    go_wp2_with (first | (refine wpList_join _ rfl _ _ 22 rfl w1.heap.size 5 .u8 1 Try.underlying22 infoU8 _ [] rfl hO1 _ ns rfl hR0 (by simp; omega) (by decide) (by simp) ?_; intro v' w2 hown hgrow; rw [List.nil_append] at hown; have D1 := Grew.push ((Grew.refl w1).alloc _) hO1 hgrow; have hs1 := D1.size) | (refine wpList_join _ rfl _ _ 22 rfl w1.heap.size 5 .u8 1 Try.underlying22 infoU8 v' ns rfl (hown.alloc _) _ (leWord C) rfl (row_lit4 w2 _ _ _ _ _ _ _ _ _ _ (by omega) (by omega) (by omega) (by omega)) (by simp [leWord]; omega) (by decide) (by simp; omega) ?_; intro v2 w3 hown2 hgrow2))
    have D2 := Grew.push (D1.alloc _) (hown.alloc _) hgrow2
    have hR2 := Lib.hid (hR.grew (G.trans D2))
    have hI := hown2.row
    have H1 := P.crc _ _ w3 hI (bytes_word ns C hB) (by simp [leWord]; omega) (K.out _ _ ht (G.trans D2))
    rw [HS.out] at H1
    have G2 := G.trans D2
    have HO := Lib.hid hO
    clear hO hO1 hR0 G0 hown hgrow D1 hgrow2 hown2 hI D2 G g1 hs1 hR H0 HS
    refine H1.mono ?_
    rintro e w4 ⟨rfl, g⟩
    have G := G2.trans g
    have hR := hR2.out.grew g
    clear G2 g hR2 H1
    by_cases hz : ns.length = 0
    · have h0 : ns = [] := List.eq_nil_of_length_eq_zero hz
      subst h0
      have A1 := Lib.hid (P.xor _ _ w4 hR hB (by simp) (K.out _ _ ht G))
      have A2 := fun w' (g : Grew w4 w') => Lib.hid (P.fif _ _ w' (hR.grew g) hB (by simp) (K.out _ _ ht (G.trans g)))
      have hx0 : xorOf [] = 0 := rfl
      have hf0 : fifOf [] = 0 := rfl
      rw [hx0] at A1
      rw [hf0] at A2
      clear hx0 hf0
      go_wp2_with fail
      refine A1.out.mono ?_
      rintro e w5 ⟨rfl, g5⟩
      go_wp2_with fail
      refine (A2 _ g5).out.mono ?_
      rintro e w6 ⟨rfl, g6⟩
      replace G := G.trans (g5.trans g6)
      clear g5 g6 A1 A2
      go_wp2_with fail
      refine (HK _ (K.out _ _ ht G)).out.mono ?_
      rintro e w7 ⟨rfl, g7⟩
      go_wp2_with fail
      go_ret
      exact ⟨rfl, G.trans g7⟩
    · have hne : (0 : Int) < ns.length := by omega
      have hz2 : ((ns.length : Int) == 0) = false := beq_eq_false_iff_ne.mpr (by omega)
      obtain ⟨j, hj, hjl⟩ : ∃ j : Nat, wrap64 ((IntKind.u64.wrap at_).tmod ns.length) = (j : Int) ∧ j < ns.length := by
        have h1 : (IntKind.u64.wrap at_).tmod ns.length = (IntKind.u64.wrap at_) % (ns.length : Int) := Int.tmod_eq_emod_of_nonneg (by simp only [IntKind.wrap_u64]; omega)
        have h2 : 0 ≤ (IntKind.u64.wrap at_) % (ns.length : Int) := Int.emod_nonneg _ (by omega)
        have h3 : (IntKind.u64.wrap at_) % (ns.length : Int) < ns.length := Int.emod_lt_of_pos _ hne
        refine ⟨((IntKind.u64.wrap at_) % (ns.length : Int)).toNat, ?_, by omega⟩
        rw [h1, IntWalk.wrap64_in _ (by omega)]; omega
      obtain ⟨b, o, rfl, hb, hcell⟩ := hR.at_ hjl
      have hj0 : (0 : Int) ≤ j := by omega
      have hjz : (j : Int) < ns.length := by omega
      have hwj := hB j
      by_cases hbx : wd ns j = x
      · have q : ((wd ns j : Int) == (x : Int)) = true := by rw [hbx]; simp
        clear hbx
        go_wp2_with fail
        refine (HK _ (K.out _ _ ht G)).out.mono ?_
        rintro e w7 ⟨rfl, g7⟩
        go_wp2_with fail
        go_ret
        exact ⟨rfl, G.trans g7⟩
      · have q : ((wd ns j : Int) == (x : Int)) = false := beq_eq_false_iff_ne.mpr (by omega)
        have n1 : ((xorOf (ns.set j x) : Int) != (xorOf ns : Int)) = true := bne_iff_ne.mpr (by have := xor_other hB j x hjl hx hbx; omega)
        have n2 : ((fletA ns : Int) != (fletA (ns.set j x) : Int)) = true := bne_iff_ne.mpr (by have := flet_other hB j x hjl hx hbx; omega)
        have n3 : ((crcOf (ns.set j x) : Int) != (C : Int)) = true := bne_iff_ne.mpr (by have := crc_other hB j x hjl hx hbx; rw [HC.out] at this; omega)
        have hB2 := hB.set j x hjl hx
        have hO4 := HO.out w4
        have D := (Grew.refl w4).alloc (.cells #[] 5)
        have hR4 := hR.grew D
        clear hbx hwj HO
        go_wp2_with (refine wpList_join _ rfl _ _ 22 rfl w4.heap.size 5 .u8 1 Try.underlying22 infoU8 _ [] rfl hO4 _ ns rfl hR4 (by simp; omega) (by decide) (by simp) ?_; intro v5 w5 hown hgrow; rw [List.nil_append] at hown; have D5 := Grew.push D hO4 hgrow; obtain ⟨g, cap, hv5, hg4, hg5⟩ := hown.form (by omega); subst hv5; have y0 := (World.ownsRow.cellAt hown j (by omega)); have y1 := (World.ownsRow.frozenAt hown j); rw [show (cellsOf .u8 ns)[j]? = some (.int .u8 (wd ns j : Nat)) by simp [cellsOf, wd, hjl]] at y0)
        have hown6 := (hown.set j x hjl).row
        have D6 := Grew.setCell (p := ⟨g, j, none⟩) D5 hg4 (.int .u8 (x : Nat))
        have hR6 := hR.grew D6
        have hlb : (ns.set j x).length ≤ 5000 := by rw [List.length_set]; omega
        generalize w5.setCell ⟨g, j, none⟩ (.int .u8 (x : Nat)) = W6 at *
        have G6 := Lib.hid (G.trans D6)
        clear hown hgrow D5 y0 y1 D hR4 hO4 D6 hR hcell G
        have D := Grew.refl W6
        have A1 := fun w' (g : Grew W6 w') => Lib.hid (P.flet _ ns w' (hR6.grew g) hB (by omega) (K.out _ _ ht (G6.out.trans g)))
        have A2 := fun w' (g : Grew W6 w') => Lib.hid (P.flet _ _ w' (hown6.grew g) hB2 hlb (K.out _ _ ht (G6.out.trans g)))
        have A3 := fun w' (g : Grew W6 w') => Lib.hid (P.xor _ _ w' (hown6.grew g) hB2 hlb (K.out _ _ ht (G6.out.trans g)))
        have A4 := fun w' (g : Grew W6 w') => Lib.hid (P.xor _ ns w' (hR6.grew g) hB (by omega) (K.out _ _ ht (G6.out.trans g)))
        have A5 := fun w' (g : Grew W6 w') => Lib.hid (P.crc _ _ w' (hown6.grew g) hB2 hlb (K.out _ _ ht (G6.out.trans g)))
        generalize xorOf ns = x1 at *
        generalize xorOf (ns.set j x) = x2 at *
        generalize fletA ns = x3 at *
        generalize fletA (ns.set j x) = x4 at *
        generalize fletB ns = x5 at *
        generalize fletB (ns.set j x) = x6 at *
        generalize crcOf (ns.set j x) = x7 at *
        clear hR6 hown6
        refine (A1 _ D).out.mono ?_
        rintro e w' ⟨rfl, hg⟩
        replace D := D.trans hg
        clear hg
        go_wp2_with fail
        refine (A2 _ D).out.mono ?_
        rintro e w' ⟨rfl, hg⟩
        replace D := D.trans hg
        clear hg
        go_wp2_with fail
        refine (A3 _ D).out.mono ?_
        rintro e w' ⟨rfl, hg⟩
        replace D := D.trans hg
        clear hg
        go_wp2_with fail
        refine (A4 _ D).out.mono ?_
        rintro e w' ⟨rfl, hg⟩
        replace D := D.trans hg
        clear hg
        go_wp2_with fail
        refine (A5 _ D).out.mono ?_
        rintro e w' ⟨rfl, hg⟩
        replace D := D.trans hg
        clear hg
        go_wp2_with fail
        refine (HK _ (K.out _ _ ht (G6.out.trans D))).out.mono ?_
        rintro e w' ⟨rfl, hg⟩
        replace D := D.trans hg
        clear hg
        go_wp2_with fail
        go_ret
        exact ⟨rfl, G6.out.trans D⟩
end Go.Proofs.Ytjgmlfglfpihjaa
