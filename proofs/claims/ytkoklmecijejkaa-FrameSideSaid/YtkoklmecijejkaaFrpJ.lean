/-
  The program's frames: a look at a ring's begin.
-/
import Derived.Test.YtkoklmecijejkaaFrpI
import Derived.Test.YtkoklmecijejkaaFrpC
import Derived.Test.YtkoklmecijejkaaFrmO
import Derived.BigQuiet
import Derived.Deep.RegionWith
namespace Go.Proofs.Ytkoklmecijejkaa
open Go.RowKit
set_option linter.unusedVariables false

section
variable {R0 : World → Prop} {v : Value} {F : Nat → Prop} {size : Nat} {L : List Nat} {w w' : World} {a b k : Nat}
/-- What a look tells. -/
def LookT (R0 : World → Prop) (size : Nat) (L : List Nat) (w : World) (e : Ending) (w' : World) : Prop :=
  ∃ k A m c n, e = .returned (.tuple #[.agg #[.int .u8 (k : Nat), .slice A m c], .int .i64 (n : Nat), .int .i64 (prS (standOf size L).1 : Nat)]) ∧ k < 256 ∧ n ≤ 10000 ∧ ((standOf size L).1 = 1 → k = (standOf size L).2.1 ∧ n = (standOf size L).2.2.2 ∧ Own w.heap.size 5 .u8 w' (.slice A m c) (standOf size L).2.2.1) ∧ R0 w' ∧ Grew w w'

/-- How many bytes a ring holds, and how many it has room for: asked, nothing turns. -/
structure Quiet (R0 : World → Prop) (v : Value) (size : Nat) (L : List Nat) : Prop where
  ln : ∀ w, R0 w → Calls Try.prog 17 #[v] w fun e w' => e = .returned (.int .i64 (L.length : Nat)) ∧ w = w'
  sz : ∀ w, R0 w → Calls Try.prog 39 #[v] w fun e w' => e = .returned (.int .i64 (size : Nat)) ∧ w = w'
theorem lookW (P : Looked R0 v F size L) (w : World) (h : R0 w) (p : Option Addr) (hv : v = .pointer p) (E1 E2 E3 : TypeId) :
    ∃ W, (((w.alloc (.cells #[.pointer p] E1)).alloc (.cells #[.int .u8 0, .slice none 0 0] E2)).alloc (.cells #[.int .i64 0] E3)) = W ∧ Grew w W ∧ AtK R0 (.pointer p) F W w.heap.size (w.heap.size + 1 + 1) 0 ∧ NewF W (w.heap.size + 1) ∧ w.heap.size + 3 = W.heap.size := by
  subst hv
  have g1 := (Grew.refl w).alloc (.cells #[.pointer p] E1)
  have g2 := (Grew.refl (w.alloc (.cells #[.pointer p] E1))).alloc (.cells #[.int .u8 0, .slice none 0 0] E2)
  have g3 := (Grew.refl ((w.alloc (.cells #[.pointer p] E1)).alloc (.cells #[.int .u8 0, .slice none 0 0] E2))).alloc (.cells #[.int .i64 0] E3)
  have N := (NewF.new (w.alloc (.cells #[.pointer p] E1)) E2).grew g3
  rw [World.size_alloc] at N
  have hlt := fun x (hx : F x) => P.lt w x h hx
  refine ⟨_, rfl, (g1.trans g2).trans g3, ⟨P.far _ _ (fun _ => False) h (Far.of_grew ((g1.trans g2).trans g3)) (fun _ _ h => h), by simp; omega, by simp, by omega, fun e => by have := hlt _ e; omega, fun e => by have := hlt _ e; omega, ?_, ?_, ?_⟩, N, by simp⟩
  · exact ((g2.trans g3).cell (p := ⟨w.heap.size, 0, none⟩) (by simp)).trans (by simp)
  · have := cell_new ((w.alloc (.cells #[.pointer p] E1)).alloc (.cells #[.int .u8 0, .slice none 0 0] E2)) (.int .i64 0) E3
    rw [World.size_alloc, World.size_alloc] at this
    exact this
  · rw [show w.heap.size + 1 + 1 = ((w.alloc (.cells #[.pointer p] E1)).alloc (.cells #[.int .u8 0, .slice none 0 0] E2)).heap.size by simp]; simp [go_sem]

set_option maxRecDepth 100000 in
set_option maxHeartbeats 16000000 in
theorem look_look (P : Looked R0 v F size L) (Q : Quiet R0 v size L) (w : World) (h : R0 w) :
    Calls Try.prog 24 #[v] w (LookT R0 size L w) := by
  have hp : ∃ p, v = .pointer p := by
    rcases P.p with ⟨g, e⟩ | e
    · exact ⟨_, e⟩
    · exact ⟨_, e⟩
  obtain ⟨p, rfl⟩ := hp
  have HLW := Lib.hid (lookW P w h p rfl 24 34 3)
  have HP := Lib.hid P
  have HQ := Lib.hid Q
  have HFD := Lib.hid (finds size L P.bytes P.ll P.ls)
  have HLT := Lib.hid (fun y (hy : F y) => P.lt w y h hy)
  clear P Q h
  go_enter Try.func24, Try.ntmps24
  go_upto_region 3 with fail
  obtain ⟨W, hW, gW, hA, hN, hWs⟩ := HLW.out
  rw [hW]
  have ca := hA.ca
  have HA := Lib.hid hA
  have HNF := Lib.hid hN
  have GW := Lib.hid gW
  have HSZ := Lib.hid (HQ.out.sz W hA.r)
  clear hW hA hN gW HLW
  go_upto_region 4 with (go_at_call 39; refine HSZ.out.mono ?_; rintro e w1 ⟨rfl, rfl⟩)
  obtain ⟨V, hV, gV, b0, hBV, b1, hVs⟩ := newB W (.func (.func 37) #[] #[.pointer (some ⟨w.heap.size, 0, none⟩), .pointer (some ⟨w.heap.size + 1 + 1, 0, none⟩)]) (.int .i64 (size : Nat)) 74
  rw [hV]
  have HU := Lib.hid (look_up HP.out V w.heap.size (w.heap.size + 1 + 1) (HA.out.grew HP.out gV))
  have HNV := Lib.hid (HNF.out.grew gV)
  have GV := Lib.hid (GW.out.trans gV)
  have hB3 : w.heap.size + 3 ≤ W.heap.size := by omega
  have hVlt : W.heap.size < V.heap.size := hBV
  generalize W.heap.size = B at *
  unfold UpT bv at HU
  obtain ⟨s1, hs1⟩ : ∃ s, upS size L = s := ⟨_, rfl⟩
  rw [hs1] at HU
  have HS1 := Lib.hid hs1
  clear hV gV hVs ca HSZ HA HNF GW hs1 hWs hBV
  go_upto_region 5 with (go_at_call 40; refine HU.out.mono ?_; rintro e w2 ⟨kk, A, m, c, j, rfl, hkk, hj, hs, hA2, hF2⟩)
  -- TAIL
  have hV2 : V.heap.size ≤ w2.heap.size := hF2.size
  have c0 := (hF2.cell (p := ⟨B, 0, none⟩) hVlt (by simp only; omega)).trans b0
  have c1 := (hF2.cell (p := ⟨B, 1, none⟩) hVlt (by simp only; omega)).trans b1
  have hN2 := HNV.out.far hF2 (by omega)
  have hG2 : Grew w w2 := hF2.grew GV.out (fun q hq => by omega)
  obtain ⟨X, hX, gX, x0, hXl, x1, hXs⟩ := newB w2 (.int .u8 (kk : Nat)) (.slice A m c) 34
  rw [hX]
  have HAX := Lib.hid (hA2.grew HP.out gX)
  have HNX := Lib.hid (hN2.grew gX)
  have GX := Lib.hid (hG2.trans gX)
  have HBX := Lib.hid (And.intro ((gX.cell (p := ⟨B, 0, none⟩) (by simp only; omega)).trans c0) ((gX.cell (p := ⟨B, 1, none⟩) (by simp only; omega)).trans c1))
  have HSX := Lib.hid (fun h : s1 = 2 => (show j = upN L ∧ kk = upK L ∧ Own V.heap.size 5 .u8 X (.slice A m c) (upB L) from ⟨(hs h).1, (hs h).2.1, (hs h).2.2.grew gX⟩))
  generalize hfb : w2.heap.size = fb at *
  have hfbB : B < fb := by omega
  clear hX gX hXs b0 b1 c0 c1 hN2 hG2 hA2 hF2 hs HU HNV GV hfb
  by_cases h2 : s1 = 2
  · subst h2
    obtain ⟨rfl, rfl, hOX⟩ := HSX.out rfl
    obtain ⟨hn1, hn2, hn3, hn4⟩ := HFD.out.2.2 HS1.out
    have hBT := Lib.hid (prog_Bytes (upK L) (.slice A m c) (upB L) X hOX.row hn3 (by omega) hkk)
    have hFB := Lib.hid (frame_bytes (k := upK L) hn3 hkk)
    have hFL := frame_len (k := upK L) (ns := upB L)
    have HOX := Lib.hid hOX
    have HLS : Hid (lookS size L = fullS size L (expS ((frameBytes (upK L) (upB L)).drop (upN L)) L (upN L))) := by show _ = _; unfold lookS; rw [if_pos HS1.out]
    have HFD2 := HFD.out.2.1
    replace HFD2 := Lib.hid HFD2
    unfold BytesTells at hBT
    generalize frameBytes (upK L) (upB L) = all at *
    generalize upN L = j at *
    clear hOX hn3 HSX
    obtain ⟨M, hM⟩ : ∃ M, all.length = M := ⟨_, rfl⟩
    go_upto_region 7 with (go_at_call 15; refine hBT.out.mono ?_; rintro e w3 ⟨v3, rfl, hO3, g3⟩)
    obtain ⟨g, c3, rfl, hg1, hg2, hgc⟩ := hO3.head (fun e => by obtain ⟨g, c', e', _⟩ := hO3.form (by omega); rw [e] at e'; cases e')
    rw [hM] at hO3 hgc ⊢
    have hcut := hO3.row.cut j (by omega)
    rw [if_neg (by omega : ¬ c3 = j), Nat.zero_add] at hcut
    have HA3 := Lib.hid (HAX.out.grew HP.out g3)
    have HN3 := Lib.hid (HNX.out.grew g3)
    have HG3 := Lib.hid (GX.out.trans g3)
    have HB3 := Lib.hid (And.intro ((g3.cell (p := ⟨B, 0, none⟩) (by simp only; omega)).trans HBX.out.1) ((g3.cell (p := ⟨B, 1, none⟩) (by simp only; omega)).trans HBX.out.2))
    have x0' := (g3.cell (p := ⟨fb, 0, none⟩) hXl).trans x0
    have x1' := (g3.cell (p := ⟨fb, 1, none⟩) hXl).trans x1
    have HO3 := Lib.hid (HOX.out.grew g3)
    have HE := fun Z (q : Grew w3 Z) => Lib.hid (look_expect HP.out Z w.heap.size (w.heap.size + 1 + 1) j _ (all.drop j) (HA3.out.grew HP.out q) hn1 (hcut.grew q) (bytes_drop hFB.out j) (by rw [List.length_drop]; omega) (fun _ y hy => by simp only [Value.ownBlock, Option.some.injEq] at hy; omega))
    unfold ExpT bv at HE
    have b0 := HB3.out.1
    have b1 := HB3.out.2
    have tj := HA3.out.cb
    have j0 : (0 : Int) ≤ j := by omega
    have j1 : (j : Int) ≤ M := by omega
    have j2 : j ≤ M := by omega
    have j3 : j ≤ c3 := by omega
    have j4 : ¬ c3 = j := by omega
    have hX3 : X.heap.size ≤ w3.heap.size := g3.size
    have hDL : Hid ((all.drop j).length ≤ M) := by show _ ≤ _; rw [List.length_drop]; omega
    have hDM : Hid (j + (all.drop j).length = all.length) := by show _ = _; rw [List.length_drop]; omega
    obtain ⟨s, hs⟩ : ∃ s, expS (all.drop j) L j = s := ⟨_, rfl⟩
    rw [hs] at HE HLS
    clear hcut hBT hO3 g3 x0 x1 HAX HNX GX HBX HOX hs
    go_cut [9] (fun q wx => ∃ jj, q = .int .i64 (s : Nat) ∧ jj ≤ (all.drop j).length ∧ (s = 2 → jj = (all.drop j).length) ∧ Hid (AtK R0 (.pointer p) F wx w.heap.size (w.heap.size + 1 + 1) (j + jj)) ∧ Hid (Far (fun x => x = w.heap.size + 1 + 1) w3 wx))
    case first =>
      go_region_with (go_at_call 41; refine (HE _ (by repeat (first | (with_reducible exact Grew.refl _) | (with_reducible refine Grew.drewN ?_ _) | (with_reducible refine Grew.drew ?_)))).out.mono ?_; rintro e w4 ⟨jj, rfl, hjj, hjs, hA4, hF4⟩)
      all_goals go_wp2_with fail
      all_goals go_meet
      all_goals exact ⟨jj, rfl, hjj, hjs, hA4, (Far.of_grew (by repeat (first | (with_reducible exact Grew.refl _) | (with_reducible refine Grew.drewN ?_ _) | (with_reducible refine Grew.drew ?_)))).trans hF4⟩
    case rest =>
      obtain ⟨jj, rfl, hjj, hjs, HAY, HF4⟩ := hcut
      have hw34 := HF4.out.size
      have HNY := Lib.hid (HN3.out.far HF4.out (by omega))
      have GY := Lib.hid (HF4.out.grew HG3.out (fun q hq => by omega))
      have x0 := (HF4.out.cell (p := ⟨fb, 0, none⟩) (by simp only; omega) (by simp only; omega)).trans x0'
      have x1 := (HF4.out.cell (p := ⟨fb, 1, none⟩) (by simp only; omega) (by simp only; omega)).trans x1'
      have HYO := Lib.hid (HO3.out.far HF4.out (fun q hq e => by have := (World.ownsRow.lt HO3.out q hq).1; omega))
      have HY : Hid (lookS size L = 2 → upK L = (standOf size L).2.1 ∧ j + jj = (standOf size L).2.2.2 ∧ Own V.heap.size 5 .u8 wc (.slice A m c) (standOf size L).2.2.1) := fun h => by
        have e := (HFD2.out h).2
        rw [e]
        have hs2 : s = 2 := by
          have h' := HLS.out.symm.trans h
          unfold fullS at h'
          by_cases hc : s = 0 ∧ L.length = size ∧ 0 < L.length
          · rw [if_pos hc] at h'; omega
          · rw [if_neg hc] at h'; exact h'
        exact ⟨rfl, by rw [hjs hs2]; exact hDM.out, HYO.out⟩
      have hn : j + jj ≤ 10000 := by have := hDL.out; omega
      have HS : Hid (lookS size L = fullS size L s) := HLS
      generalize upK L = kk at *
      generalize j + jj = n at *
      have HFIN : ∀ Z (s' : Nat), lookS size L = s' → Grew wc Z → ∀ x y, Hid (LookT R0 size L w (.returned (.tuple #[.agg #[.int .u8 (kk : Nat), .slice A m c], .int .i64 (n : Nat), .int .i64 (s' : Nat)])) ((Z.setCell ⟨w.heap.size + 1, 0, none⟩ x).setCell ⟨w.heap.size + 1, 1, none⟩ y)) := fun Z s' hS g x y => by
        have FW : Far (fun q => q = w.heap.size + 1) Z ((Z.setCell ⟨w.heap.size + 1, 0, none⟩ x).setCell ⟨w.heap.size + 1, 1, none⟩ y) := far_at x y
        have h1 := HFD.out.1
        refine ⟨kk, A, m, c, n, by rw [← h1, hS], hkk, hn, fun h => ?_, (HP.out.far _ _ _ ((HAY.out.grew HP.out g).r) FW (fun q hq e => by have := HLT.out q hq; omega)), ((GY.out.trans g).setCell (by simp only; omega) _).setCell (by simp only; omega) _⟩
        have h2 : lookS size L = 2 := by rw [h1, h]; rfl
        obtain ⟨f1, f2, f3⟩ := HY.out h2
        exact ⟨f1, f2, own_base ((f3.grew g).far FW (fun q hq e => by have := (World.ownsRow.lt (f3.grew g) q hq).1; omega)) (by omega)⟩
      have QL : ∀ Z, Grew wc Z → Hid (Calls Try.prog 17 #[.pointer p] Z fun e w' => e = .returned (.int .i64 (L.length : Nat)) ∧ Z = w') := fun Z g => Lib.hid (HQ.out.ln Z ((HAY.out.grew HP.out g).r))
      have QS : ∀ Z, Grew wc Z → Hid (Calls Try.prog 39 #[.pointer p] Z fun e w' => e = .returned (.int .i64 (size : Nat)) ∧ Z = w') := fun Z g => Lib.hid (HQ.out.sz Z ((HAY.out.grew HP.out g).r))
      have yca := HAY.out.ca
      have ycb := HAY.out.cb
      have hyl := HAY.out.la
      obtain ⟨y1, y2, y3, y4, y5⟩ := HNY.out
      clear HAY HNY GY HY HFD HLT HQ HP
      by_cases hs0 : s = 0
      · subst hs0
        have G := Lib.hid (Grew.refl wc)
        by_cases hls : L.length = size
        · have e1 : ((L.length : Int) == size) = true := by simpa using (by omega : (L.length : Int) = size)
          have e1' : decide ((L.length : Int) = size) = true := decide_eq_true (by omega)
          by_cases hl0 : 0 < L.length
          · have e2 : decide ((0 : Int) < L.length) = true := decide_eq_true (by omega)
            have e3 : (0 : Int) < L.length := by omega
            have FU : Hid (fullS size L 0 = 1) := by show _ = _; unfold fullS; rw [if_pos ⟨rfl, hls, hl0⟩]
            clear hls hl0
            go_wp2_with fail
            go_quiet (first | (go_at_call 17; exact Calls.quiet_of_same ((QL _ ((Grew.refl _).drewN _)).out.mono fun _ _ h => ⟨h.1, h.2.symm⟩)) | (go_at_call 39; exact Calls.quiet_of_same ((QS _ ((Grew.refl _).drewN _)).out.mono fun _ _ h => ⟨h.1, h.2.symm⟩)))
            go_wp2_with fail
            go_region
            all_goals go_wp2_with fail
            all_goals refine bodyPost_ret (by simp [results, Try.results24, go_sem, y2, y3]; try rfl) rfl ?_
            all_goals exact (HFIN _ 1 (by rw [HS.out, FU.out]) (by repeat (first | (with_reducible exact Grew.refl _) | (with_reducible refine Grew.drewN ?_ _) | (with_reducible refine Grew.drew ?_))) _ _).out
          · have e2 : decide ((0 : Int) < L.length) = false := decide_eq_false (by omega)
            have e3 : ¬ (0 : Int) < L.length := by omega
            have e4 : ¬ 0 < L.length := hl0
            have FU : Hid (fullS size L 0 = 0) := by show _ = _; unfold fullS; rw [if_neg (fun h => hl0 h.2.2)]
            clear hls hl0
            go_wp2_with fail
            go_quiet (first | (go_at_call 17; exact Calls.quiet_of_same ((QL _ ((Grew.refl _).drewN _)).out.mono fun _ _ h => ⟨h.1, h.2.symm⟩)) | (go_at_call 39; exact Calls.quiet_of_same ((QS _ ((Grew.refl _).drewN _)).out.mono fun _ _ h => ⟨h.1, h.2.symm⟩)))
            go_wp2_with fail
            go_region
            all_goals go_wp2_with fail
            all_goals refine bodyPost_ret (by simp [results, Try.results24, go_sem, y2, y3]; try rfl) rfl ?_
            all_goals exact (HFIN _ 0 (by rw [HS.out, FU.out]) (by repeat (first | (with_reducible exact Grew.refl _) | (with_reducible refine Grew.drewN ?_ _) | (with_reducible refine Grew.drew ?_))) _ _).out
        · have e1 : ((L.length : Int) == size) = false := by simpa using (by omega : ¬ (L.length : Int) = size)
          have e1' : decide ((L.length : Int) = size) = false := decide_eq_false (by omega)
          have FU : Hid (fullS size L 0 = 0) := by show _ = _; unfold fullS; rw [if_neg (fun h => hls h.2.1)]
          clear hls
          go_wp2_with fail
          go_quiet (first | (go_at_call 17; exact Calls.quiet_of_same ((QL _ ((Grew.refl _).drewN _)).out.mono fun _ _ h => ⟨h.1, h.2.symm⟩)) | (go_at_call 39; exact Calls.quiet_of_same ((QS _ ((Grew.refl _).drewN _)).out.mono fun _ _ h => ⟨h.1, h.2.symm⟩)))
          go_wp2_with fail
          go_region
          all_goals go_wp2_with fail
          all_goals refine bodyPost_ret (by simp [results, Try.results24, go_sem, y2, y3]; try rfl) rfl ?_
          all_goals exact (HFIN _ 0 (by rw [HS.out, FU.out]) (by repeat (first | (with_reducible exact Grew.refl _) | (with_reducible refine Grew.drewN ?_ _) | (with_reducible refine Grew.drew ?_))) _ _).out
      · have e0 : ((s : Int) == 0) = false := by simpa using (by omega : ¬ (s : Int) = 0)
        have e0' : decide ((s : Int) = 0) = false := decide_eq_false (by omega)
        have FU : Hid (fullS size L s = s) := by show _ = _; unfold fullS; rw [if_neg (fun h => hs0 h.1)]
        clear hs0
        go_wp2_with fail
        go_quiet (fail)
        go_wp2_with fail
        go_region
        all_goals go_wp2_with fail
        all_goals refine bodyPost_ret (by simp [results, Try.results24, go_sem, y2, y3]; try rfl) rfl ?_
        all_goals exact (HFIN _ s (by rw [HS.out, FU.out]) (by repeat (first | (with_reducible exact Grew.refl _) | (with_reducible refine Grew.drewN ?_ _) | (with_reducible refine Grew.drew ?_))) _ _).out
  · have HLS : Hid (lookS size L = fullS size L s1) := by show _ = _; unfold lookS; rw [HS1.out, if_neg h2]
    have e5 : ((s1 : Int) == 2) = false := by simpa using (by omega : ¬ (s1 : Int) = 2)
    have e5' : decide ((s1 : Int) = 2) = false := decide_eq_false (by omega)
    have HAY := HAX
    have HNY := HNX
    have GY := GX
    have HY : Hid (lookS size L = 2 → kk = (standOf size L).2.1 ∧ j = (standOf size L).2.2.2 ∧ Own V.heap.size 5 .u8 X (.slice A m c) (standOf size L).2.2.1) := fun h => by
      have h' := HLS.out.symm.trans h
      unfold fullS at h'
      by_cases hc : s1 = 0 ∧ L.length = size ∧ 0 < L.length
      · rw [if_pos hc] at h'; omega
      · rw [if_neg hc] at h'; exact absurd h' h2
    have HS : Hid (lookS size L = fullS size L s1) := HLS
    have hn : j ≤ 10000 := by omega
    have e6 : ¬ (s1 : Int) = 2 := by omega
    generalize s1 = s at *
    generalize hjn : j = n at *
    clear HAX HNX GX HSX HS1 HLS h2 hj
    go_upto_region 8 with fail
    clear e5 e5' e6 HBX hjn
    have HFIN : ∀ Z (s' : Nat), lookS size L = s' → Grew X Z → ∀ x y, Hid (LookT R0 size L w (.returned (.tuple #[.agg #[.int .u8 (kk : Nat), .slice A m c], .int .i64 (n : Nat), .int .i64 (s' : Nat)])) ((Z.setCell ⟨w.heap.size + 1, 0, none⟩ x).setCell ⟨w.heap.size + 1, 1, none⟩ y)) := fun Z s' hS g x y => by
      have FW : Far (fun q => q = w.heap.size + 1) Z ((Z.setCell ⟨w.heap.size + 1, 0, none⟩ x).setCell ⟨w.heap.size + 1, 1, none⟩ y) := far_at x y
      have h1 := HFD.out.1
      refine ⟨kk, A, m, c, n, by rw [← h1, hS], hkk, hn, fun h => ?_, (HP.out.far _ _ _ ((HAY.out.grew HP.out g).r) FW (fun q hq e => by have := HLT.out q hq; omega)), ((GY.out.trans g).setCell (by simp only; omega) _).setCell (by simp only; omega) _⟩
      have h2 : lookS size L = 2 := by rw [h1, h]; rfl
      obtain ⟨f1, f2, f3⟩ := HY.out h2
      exact ⟨f1, f2, own_base ((f3.grew g).far FW (fun q hq e => by have := (World.ownsRow.lt (f3.grew g) q hq).1; omega)) (by omega)⟩
    have QL : ∀ Z, Grew X Z → Hid (Calls Try.prog 17 #[.pointer p] Z fun e w' => e = .returned (.int .i64 (L.length : Nat)) ∧ Z = w') := fun Z g => Lib.hid (HQ.out.ln Z ((HAY.out.grew HP.out g).r))
    have QS : ∀ Z, Grew X Z → Hid (Calls Try.prog 39 #[.pointer p] Z fun e w' => e = .returned (.int .i64 (size : Nat)) ∧ Z = w') := fun Z g => Lib.hid (HQ.out.sz Z ((HAY.out.grew HP.out g).r))
    have yca := HAY.out.ca
    have ycb := HAY.out.cb
    have hyl := HAY.out.la
    obtain ⟨y1, y2, y3, y4, y5⟩ := HNY.out
    clear HAY HNY GY HY HFD HLT HQ HP
    by_cases hs0 : s = 0
    · subst hs0
      have G := Lib.hid (Grew.refl X)
      by_cases hls : L.length = size
      · have e1 : ((L.length : Int) == size) = true := by simpa using (by omega : (L.length : Int) = size)
        have e1' : decide ((L.length : Int) = size) = true := decide_eq_true (by omega)
        by_cases hl0 : 0 < L.length
        · have e2 : decide ((0 : Int) < L.length) = true := decide_eq_true (by omega)
          have e3 : (0 : Int) < L.length := by omega
          have FU : Hid (fullS size L 0 = 1) := by show _ = _; unfold fullS; rw [if_pos ⟨rfl, hls, hl0⟩]
          clear hls hl0
          go_wp2_with fail
          go_quiet (first | (go_at_call 17; exact Calls.quiet_of_same ((QL _ ((Grew.refl _).drewN _)).out.mono fun _ _ h => ⟨h.1, h.2.symm⟩)) | (go_at_call 39; exact Calls.quiet_of_same ((QS _ ((Grew.refl _).drewN _)).out.mono fun _ _ h => ⟨h.1, h.2.symm⟩)))
          go_wp2_with fail
          go_region
          all_goals go_wp2_with fail
          all_goals refine bodyPost_ret (by simp [results, Try.results24, go_sem, y2, y3]; try rfl) rfl ?_
          all_goals exact (HFIN _ 1 (by rw [HS.out, FU.out]) (by repeat (first | (with_reducible exact Grew.refl _) | (with_reducible refine Grew.drewN ?_ _) | (with_reducible refine Grew.drew ?_))) _ _).out
        · have e2 : decide ((0 : Int) < L.length) = false := decide_eq_false (by omega)
          have e3 : ¬ (0 : Int) < L.length := by omega
          have e4 : ¬ 0 < L.length := hl0
          have FU : Hid (fullS size L 0 = 0) := by show _ = _; unfold fullS; rw [if_neg (fun h => hl0 h.2.2)]
          clear hls hl0
          go_wp2_with fail
          go_quiet (first | (go_at_call 17; exact Calls.quiet_of_same ((QL _ ((Grew.refl _).drewN _)).out.mono fun _ _ h => ⟨h.1, h.2.symm⟩)) | (go_at_call 39; exact Calls.quiet_of_same ((QS _ ((Grew.refl _).drewN _)).out.mono fun _ _ h => ⟨h.1, h.2.symm⟩)))
          go_wp2_with fail
          go_region
          all_goals go_wp2_with fail
          all_goals refine bodyPost_ret (by simp [results, Try.results24, go_sem, y2, y3]; try rfl) rfl ?_
          all_goals exact (HFIN _ 0 (by rw [HS.out, FU.out]) (by repeat (first | (with_reducible exact Grew.refl _) | (with_reducible refine Grew.drewN ?_ _) | (with_reducible refine Grew.drew ?_))) _ _).out
      · have e1 : ((L.length : Int) == size) = false := by simpa using (by omega : ¬ (L.length : Int) = size)
        have e1' : decide ((L.length : Int) = size) = false := decide_eq_false (by omega)
        have FU : Hid (fullS size L 0 = 0) := by show _ = _; unfold fullS; rw [if_neg (fun h => hls h.2.1)]
        clear hls
        go_wp2_with fail
        go_quiet (first | (go_at_call 17; exact Calls.quiet_of_same ((QL _ ((Grew.refl _).drewN _)).out.mono fun _ _ h => ⟨h.1, h.2.symm⟩)) | (go_at_call 39; exact Calls.quiet_of_same ((QS _ ((Grew.refl _).drewN _)).out.mono fun _ _ h => ⟨h.1, h.2.symm⟩)))
        go_wp2_with fail
        go_region
        all_goals go_wp2_with fail
        all_goals refine bodyPost_ret (by simp [results, Try.results24, go_sem, y2, y3]; try rfl) rfl ?_
        all_goals exact (HFIN _ 0 (by rw [HS.out, FU.out]) (by repeat (first | (with_reducible exact Grew.refl _) | (with_reducible refine Grew.drewN ?_ _) | (with_reducible refine Grew.drew ?_))) _ _).out
    · have e0 : ((s : Int) == 0) = false := by simpa using (by omega : ¬ (s : Int) = 0)
      have e0' : decide ((s : Int) = 0) = false := decide_eq_false (by omega)
      have FU : Hid (fullS size L s = s) := by show _ = _; unfold fullS; rw [if_neg (fun h => hs0 h.1)]
      clear hs0
      go_wp2_with fail
      go_quiet (fail)
      go_wp2_with fail
      go_region
      all_goals go_wp2_with fail
      all_goals refine bodyPost_ret (by simp [results, Try.results24, go_sem, y2, y3]; try rfl) rfl ?_
      all_goals exact (HFIN _ s (by rw [HS.out, FU.out]) (by repeat (first | (with_reducible exact Grew.refl _) | (with_reducible refine Grew.drewN ?_ _) | (with_reducible refine Grew.drew ?_))) _ _).out
end
end Go.Proofs.Ytkoklmecijejkaa
