/-
  The program's frames: a look at a ring's begin.
  The program's frames: a ring that is looked at; one that is not there.
  The program's frames: what is taken out next.
-/
import Derived.Test.YtlcmjedbdopglaaGreatDoorFrpI
import Derived.Test.YtlcmjedbdopglaaGreatDoorFrpC
import Derived.Test.YtlcmjedbdopglaaGreatDoorFrmO
import Derived.Test.YtlcmjedbdopglaaGreatDoorRngJ
import Derived.BigQuiet
import Derived.Deep.RegionWith
namespace Go.Proofs.YtlcmjedbdopglaaGreatDoor
open Go.RowKit
set_option linter.unusedVariables false

/- The program's frames: a look at a ring's begin. -/
section
variable {R0 : World → Prop} {v : Value} {F : Nat → Prop} {size : Nat} {L : List Nat} {w w' : World} {a b k : Nat}
/-- What a look tells. -/
def LookT (R0 : World → Prop) (size : Nat) (L : List Nat) (w : World) (e : Ending) (w' : World) : Prop :=
  ∃ k A m c n, e = .returned (.tuple #[.agg #[.int .u8 (k : Nat), .slice A m c], .int .i64 (n : Nat), .int .i64 (prS (standOf size L).1 : Nat)]) ∧ k < 256 ∧ n ≤ 10000 ∧ ((standOf size L).1 = 1 → k = (standOf size L).2.1 ∧ n = (standOf size L).2.2.2 ∧ Own w.heap.size 5 .u8 w' (.slice A m c) (standOf size L).2.2.1) ∧ R0 w' ∧ Grew w w'

/-- How many bytes a ring holds, and how many it has room for: asked, nothing turns. -/
structure Quiet (R0 : World → Prop) (v : Value) (size : Nat) (L : List Nat) : Prop where
  ln : ∀ w, R0 w → Calls Tryz.prog 18 #[v] w fun e w' => e = .returned (.int .i64 (L.length : Nat)) ∧ w = w'
  sz : ∀ w, R0 w → Calls Tryz.prog 53 #[v] w fun e w' => e = .returned (.int .i64 (size : Nat)) ∧ w = w'
theorem lookW (P : Looked R0 v F size L) (w : World) (h : R0 w) (p : Option Addr) (hv : v = .pointer p) (E1 E2 E3 : TypeId) :
    ∃ W, (((w.alloc (.cells #[.pointer p] E1)).alloc (.cells #[.int .u8 0, .slice none 0 0] E2)).alloc (.cells #[.int .i64 0] E3)) = W ∧ Grew w W ∧ AtK R0 (.pointer p) F W w.heap.size (w.heap.size + 1 + 1) 0 ∧ NewF W (w.heap.size + 1) ∧ w.heap.size + 3 = W.heap.size := by
  subst hv
  have g1 := (Grew.refl w).alloc (.cells #[.pointer p] E1)
  have g2 := (Grew.refl (w.alloc (.cells #[.pointer p] E1))).alloc (.cells #[.int .u8 0, .slice none 0 0] E2)
  have g3 := (Grew.refl ((w.alloc (.cells #[.pointer p] E1)).alloc (.cells #[.int .u8 0, .slice none 0 0] E2))).alloc (.cells #[.int .i64 0] E3)
  have N := (NewF.new (w.alloc (.cells #[.pointer p] E1)) E2).grew g3
  rw [World.size_alloc] at N
  have hlt := fun x (hx : F x) => P.lt w x h hx
  refine ⟨_, rfl, (g1.trans g2).trans g3, ⟨P.far _ _ (fun _ => False) h (Far.of_grew ((g1.trans g2).trans g3)) (fun _ _ h => h), by simp; omega, by simp, by omega, fun e => by have := hlt _ e; omega, fun e => by have := hlt _ e; omega, ?_, ?_, ?_⟩, N, by simp⟩
  · exact ((g2.trans g3).cell (p := ⟨w.heap.size, 0, none⟩) (by simp)).trans (by simp)
  · have := cell_new ((w.alloc (.cells #[.pointer p] E1)).alloc (.cells #[.int .u8 0, .slice none 0 0] E2)) (.int .i64 0) E3
    rw [World.size_alloc, World.size_alloc] at this
    exact this
  · rw [show w.heap.size + 1 + 1 = ((w.alloc (.cells #[.pointer p] E1)).alloc (.cells #[.int .u8 0, .slice none 0 0] E2)).heap.size by simp]; simp [go_sem]

set_option maxRecDepth 100000 in
set_option maxHeartbeats 16000000 in
theorem look_look (P : Looked R0 v F size L) (Q : Quiet R0 v size L) (w : World) (h : R0 w) :
    Calls Tryz.prog 33 #[v] w (LookT R0 size L w) := by
  have hp : ∃ p, v = .pointer p := by
    rcases P.p with ⟨g, e⟩ | e
    · exact ⟨_, e⟩
    · exact ⟨_, e⟩
  obtain ⟨p, rfl⟩ := hp
  have HLW := Lib.hid (lookW P w h p rfl 46 51 3)
  have HP := Lib.hid P
  have HQ := Lib.hid Q
  have HFD := Lib.hid (finds size L P.bytes P.ll P.ls)
  have HLT := Lib.hid (fun y (hy : F y) => P.lt w y h hy)
  clear P Q h
  go_enter Tryz.func33, Tryz.ntmps33
  go_upto_region 3 with fail
  obtain ⟨W, hW, gW, hA, hN, hWs⟩ := HLW.out
  rw [hW]
  have ca := hA.ca
  have HA := Lib.hid hA
  have HNF := Lib.hid hN
  have GW := Lib.hid gW
  have HSZ := Lib.hid (HQ.out.sz W hA.r)
  clear hW hA hN gW HLW
  go_upto_region 4 with (go_at_call 53; refine HSZ.out.mono ?_; rintro e w1 ⟨rfl, rfl⟩)
  obtain ⟨V, hV, gV, b0, hBV, b1, hVs⟩ := newB W (.func (.func 51) #[] #[.pointer (some ⟨w.heap.size, 0, none⟩), .pointer (some ⟨w.heap.size + 1 + 1, 0, none⟩)]) (.int .i64 (size : Nat)) 109
  rw [hV]
  have HU := Lib.hid (look_up HP.out V w.heap.size (w.heap.size + 1 + 1) (HA.out.grew HP.out gV))
  have HNV := Lib.hid (HNF.out.grew gV)
  have GV := Lib.hid (GW.out.trans gV)
  have hB3 : w.heap.size + 3 ≤ W.heap.size := by omega
  have hVlt : W.heap.size < V.heap.size := hBV
  generalize W.heap.size = B at *
  unfold UpT bv at HU
  obtain ⟨s1, hs1⟩ : ∃ s, upS size L = s := ⟨_, rfl⟩
  rw [hs1] at HU
  have HS1 := Lib.hid hs1
  clear hV gV hVs ca HSZ HA HNF GW hs1 hWs hBV
  go_upto_region 5 with (go_at_call 54; refine HU.out.mono ?_; rintro e w2 ⟨kk, A, m, c, j, rfl, hkk, hj, hs, hA2, hF2⟩)
  -- TAIL
  have hV2 : V.heap.size ≤ w2.heap.size := hF2.size
  have c0 := (hF2.cell (p := ⟨B, 0, none⟩) hVlt (by simp only; omega)).trans b0
  have c1 := (hF2.cell (p := ⟨B, 1, none⟩) hVlt (by simp only; omega)).trans b1
  have hN2 := HNV.out.far hF2 (by omega)
  have hG2 : Grew w w2 := hF2.grew GV.out (fun q hq => by omega)
  obtain ⟨X, hX, gX, x0, hXl, x1, hXs⟩ := newB w2 (.int .u8 (kk : Nat)) (.slice A m c) 51
  rw [hX]
  have HAX := Lib.hid (hA2.grew HP.out gX)
  have HNX := Lib.hid (hN2.grew gX)
  have GX := Lib.hid (hG2.trans gX)
  have HBX := Lib.hid (And.intro ((gX.cell (p := ⟨B, 0, none⟩) (by simp only; omega)).trans c0) ((gX.cell (p := ⟨B, 1, none⟩) (by simp only; omega)).trans c1))
  have HSX := Lib.hid (fun h : s1 = 2 => (show j = upN L ∧ kk = upK L ∧ Own V.heap.size 5 .u8 X (.slice A m c) (upB L) from ⟨(hs h).1, (hs h).2.1, (hs h).2.2.grew gX⟩))
  generalize hfb : w2.heap.size = fb at *
  have hfbB : B < fb := by omega
  clear hX gX hXs b0 b1 c0 c1 hN2 hG2 hA2 hF2 hs HU HNV GV hfb
  by_cases h2 : s1 = 2
  · subst h2
    obtain ⟨rfl, rfl, hOX⟩ := HSX.out rfl
    obtain ⟨hn1, hn2, hn3, hn4⟩ := HFD.out.2.2 HS1.out
    have hBT := Lib.hid (prog_Bytes (upK L) (.slice A m c) (upB L) X hOX.row hn3 (by omega) hkk)
    have hFB := Lib.hid (frame_bytes (k := upK L) hn3 hkk)
    have hFL := frame_len (k := upK L) (ns := upB L)
    have HOX := Lib.hid hOX
    have HLS : Hid (lookS size L = fullS size L (expS ((frameBytes (upK L) (upB L)).drop (upN L)) L (upN L))) := by show _ = _; unfold lookS; rw [if_pos HS1.out]
    have HFD2 := HFD.out.2.1
    replace HFD2 := Lib.hid HFD2
    unfold BytesTells at hBT
    generalize frameBytes (upK L) (upB L) = all at *
    generalize upN L = j at *
    clear hOX hn3 HSX
    obtain ⟨M, hM⟩ : ∃ M, all.length = M := ⟨_, rfl⟩
    go_upto_region 7 with (go_at_call 25; refine hBT.out.mono ?_; rintro e w3 ⟨v3, rfl, hO3, g3⟩)
    obtain ⟨g, c3, rfl, hg1, hg2, hgc⟩ := hO3.head (fun e => by obtain ⟨g, c', e', _⟩ := hO3.form (by omega); rw [e] at e'; cases e')
    rw [hM] at hO3 hgc ⊢
    have hcut := hO3.row.cut j (by omega)
    rw [if_neg (by omega : ¬ c3 = j), Nat.zero_add] at hcut
    have HA3 := Lib.hid (HAX.out.grew HP.out g3)
    have HN3 := Lib.hid (HNX.out.grew g3)
    have HG3 := Lib.hid (GX.out.trans g3)
    have HB3 := Lib.hid (And.intro ((g3.cell (p := ⟨B, 0, none⟩) (by simp only; omega)).trans HBX.out.1) ((g3.cell (p := ⟨B, 1, none⟩) (by simp only; omega)).trans HBX.out.2))
    have x0' := (g3.cell (p := ⟨fb, 0, none⟩) hXl).trans x0
    have x1' := (g3.cell (p := ⟨fb, 1, none⟩) hXl).trans x1
    have HO3 := Lib.hid (HOX.out.grew g3)
    have HE := fun Z (q : Grew w3 Z) => Lib.hid (look_expect HP.out Z w.heap.size (w.heap.size + 1 + 1) j _ (all.drop j) (HA3.out.grew HP.out q) hn1 (hcut.grew q) (bytes_drop hFB.out j) (by rw [List.length_drop]; omega) (fun _ y hy => by simp only [Value.ownBlock, Option.some.injEq] at hy; omega))
    unfold ExpT bv at HE
    have b0 := HB3.out.1
    have b1 := HB3.out.2
    have tj := HA3.out.cb
    have j0 : (0 : Int) ≤ j := by omega
    have j1 : (j : Int) ≤ M := by omega
    have j2 : j ≤ M := by omega
    have j3 : j ≤ c3 := by omega
    have j4 : ¬ c3 = j := by omega
    have hX3 : X.heap.size ≤ w3.heap.size := g3.size
    have hDL : Hid ((all.drop j).length ≤ M) := by show _ ≤ _; rw [List.length_drop]; omega
    have hDM : Hid (j + (all.drop j).length = all.length) := by show _ = _; rw [List.length_drop]; omega
    obtain ⟨s, hs⟩ : ∃ s, expS (all.drop j) L j = s := ⟨_, rfl⟩
    rw [hs] at HE HLS
    clear hcut hBT hO3 g3 x0 x1 HAX HNX GX HBX HOX hs
    go_cut [9] (fun q wx => ∃ jj, q = .int .i64 (s : Nat) ∧ jj ≤ (all.drop j).length ∧ (s = 2 → jj = (all.drop j).length) ∧ Hid (AtK R0 (.pointer p) F wx w.heap.size (w.heap.size + 1 + 1) (j + jj)) ∧ Hid (Far (fun x => x = w.heap.size + 1 + 1) w3 wx))
    case first =>
      go_region_with (go_at_call 55; refine (HE _ (by repeat (first | (with_reducible exact Grew.refl _) | (with_reducible refine Grew.drewN ?_ _) | (with_reducible refine Grew.drew ?_)))).out.mono ?_; rintro e w4 ⟨jj, rfl, hjj, hjs, hA4, hF4⟩)
      all_goals go_wp2_with fail
      all_goals go_meet
      all_goals exact ⟨jj, rfl, hjj, hjs, hA4, (Far.of_grew (by repeat (first | (with_reducible exact Grew.refl _) | (with_reducible refine Grew.drewN ?_ _) | (with_reducible refine Grew.drew ?_)))).trans hF4⟩
    case rest =>
      obtain ⟨jj, rfl, hjj, hjs, HAY, HF4⟩ := hcut
      have hw34 := HF4.out.size
      have HNY := Lib.hid (HN3.out.far HF4.out (by omega))
      have GY := Lib.hid (HF4.out.grew HG3.out (fun q hq => by omega))
      have x0 := (HF4.out.cell (p := ⟨fb, 0, none⟩) (by simp only; omega) (by simp only; omega)).trans x0'
      have x1 := (HF4.out.cell (p := ⟨fb, 1, none⟩) (by simp only; omega) (by simp only; omega)).trans x1'
      have HYO := Lib.hid (HO3.out.far HF4.out (fun q hq e => by have := (World.ownsRow.lt HO3.out q hq).1; omega))
      have HY : Hid (lookS size L = 2 → upK L = (standOf size L).2.1 ∧ j + jj = (standOf size L).2.2.2 ∧ Own V.heap.size 5 .u8 wc (.slice A m c) (standOf size L).2.2.1) := fun h => by
        have e := (HFD2.out h).2
        rw [e]
        have hs2 : s = 2 := by
          have h' := HLS.out.symm.trans h
          unfold fullS at h'
          by_cases hc : s = 0 ∧ L.length = size ∧ 0 < L.length
          · rw [if_pos hc] at h'; omega
          · rw [if_neg hc] at h'; exact h'
        exact ⟨rfl, by rw [hjs hs2]; exact hDM.out, HYO.out⟩
      have hn : j + jj ≤ 10000 := by have := hDL.out; omega
      have HS : Hid (lookS size L = fullS size L s) := HLS
      generalize upK L = kk at *
      generalize j + jj = n at *
      have HFIN : ∀ Z (s' : Nat), lookS size L = s' → Grew wc Z → ∀ x y, Hid (LookT R0 size L w (.returned (.tuple #[.agg #[.int .u8 (kk : Nat), .slice A m c], .int .i64 (n : Nat), .int .i64 (s' : Nat)])) ((Z.setCell ⟨w.heap.size + 1, 0, none⟩ x).setCell ⟨w.heap.size + 1, 1, none⟩ y)) := fun Z s' hS g x y => by
        have FW : Far (fun q => q = w.heap.size + 1) Z ((Z.setCell ⟨w.heap.size + 1, 0, none⟩ x).setCell ⟨w.heap.size + 1, 1, none⟩ y) := far_at x y
        have h1 := HFD.out.1
        refine ⟨kk, A, m, c, n, by rw [← h1, hS], hkk, hn, fun h => ?_, (HP.out.far _ _ _ ((HAY.out.grew HP.out g).r) FW (fun q hq e => by have := HLT.out q hq; omega)), ((GY.out.trans g).setCell (by simp only; omega) _).setCell (by simp only; omega) _⟩
        have h2 : lookS size L = 2 := by rw [h1, h]; rfl
        obtain ⟨f1, f2, f3⟩ := HY.out h2
        exact ⟨f1, f2, own_base ((f3.grew g).far FW (fun q hq e => by have := (World.ownsRow.lt (f3.grew g) q hq).1; omega)) (by omega)⟩
      have QL : ∀ Z, Grew wc Z → Hid (Calls Tryz.prog 18 #[.pointer p] Z fun e w' => e = .returned (.int .i64 (L.length : Nat)) ∧ Z = w') := fun Z g => Lib.hid (HQ.out.ln Z ((HAY.out.grew HP.out g).r))
      have QS : ∀ Z, Grew wc Z → Hid (Calls Tryz.prog 53 #[.pointer p] Z fun e w' => e = .returned (.int .i64 (size : Nat)) ∧ Z = w') := fun Z g => Lib.hid (HQ.out.sz Z ((HAY.out.grew HP.out g).r))
      have yca := HAY.out.ca
      have ycb := HAY.out.cb
      have hyl := HAY.out.la
      obtain ⟨y1, y2, y3, y4, y5⟩ := HNY.out
      clear HAY HNY GY HY HFD HLT HQ HP
      by_cases hs0 : s = 0
      · subst hs0
        have G := Lib.hid (Grew.refl wc)
        by_cases hls : L.length = size
        · have e1 : ((L.length : Int) == size) = true := by simpa using (by omega : (L.length : Int) = size)
          have e1' : decide ((L.length : Int) = size) = true := decide_eq_true (by omega)
          by_cases hl0 : 0 < L.length
          · have e2 : decide ((0 : Int) < L.length) = true := decide_eq_true (by omega)
            have e3 : (0 : Int) < L.length := by omega
            have FU : Hid (fullS size L 0 = 1) := by show _ = _; unfold fullS; rw [if_pos ⟨rfl, hls, hl0⟩]
            clear hls hl0
            go_wp2_with fail
            go_quiet (first | (go_at_call 18; exact Calls.quiet_of_same ((QL _ ((Grew.refl _).drewN _)).out.mono fun _ _ h => ⟨h.1, h.2.symm⟩)) | (go_at_call 53; exact Calls.quiet_of_same ((QS _ ((Grew.refl _).drewN _)).out.mono fun _ _ h => ⟨h.1, h.2.symm⟩)))
            go_wp2_with fail
            go_region
            all_goals go_wp2_with fail
            all_goals refine bodyPost_ret (by simp [results, Tryz.results33, go_sem, y2, y3]; try rfl) rfl ?_
            all_goals exact (HFIN _ 1 (by rw [HS.out, FU.out]) (by repeat (first | (with_reducible exact Grew.refl _) | (with_reducible refine Grew.drewN ?_ _) | (with_reducible refine Grew.drew ?_))) _ _).out
          · have e2 : decide ((0 : Int) < L.length) = false := decide_eq_false (by omega)
            have e3 : ¬ (0 : Int) < L.length := by omega
            have e4 : ¬ 0 < L.length := hl0
            have FU : Hid (fullS size L 0 = 0) := by show _ = _; unfold fullS; rw [if_neg (fun h => hl0 h.2.2)]
            clear hls hl0
            go_wp2_with fail
            go_quiet (first | (go_at_call 18; exact Calls.quiet_of_same ((QL _ ((Grew.refl _).drewN _)).out.mono fun _ _ h => ⟨h.1, h.2.symm⟩)) | (go_at_call 53; exact Calls.quiet_of_same ((QS _ ((Grew.refl _).drewN _)).out.mono fun _ _ h => ⟨h.1, h.2.symm⟩)))
            go_wp2_with fail
            go_region
            all_goals go_wp2_with fail
            all_goals refine bodyPost_ret (by simp [results, Tryz.results33, go_sem, y2, y3]; try rfl) rfl ?_
            all_goals exact (HFIN _ 0 (by rw [HS.out, FU.out]) (by repeat (first | (with_reducible exact Grew.refl _) | (with_reducible refine Grew.drewN ?_ _) | (with_reducible refine Grew.drew ?_))) _ _).out
        · have e1 : ((L.length : Int) == size) = false := by simpa using (by omega : ¬ (L.length : Int) = size)
          have e1' : decide ((L.length : Int) = size) = false := decide_eq_false (by omega)
          have FU : Hid (fullS size L 0 = 0) := by show _ = _; unfold fullS; rw [if_neg (fun h => hls h.2.1)]
          clear hls
          go_wp2_with fail
          go_quiet (first | (go_at_call 18; exact Calls.quiet_of_same ((QL _ ((Grew.refl _).drewN _)).out.mono fun _ _ h => ⟨h.1, h.2.symm⟩)) | (go_at_call 53; exact Calls.quiet_of_same ((QS _ ((Grew.refl _).drewN _)).out.mono fun _ _ h => ⟨h.1, h.2.symm⟩)))
          go_wp2_with fail
          go_region
          all_goals go_wp2_with fail
          all_goals refine bodyPost_ret (by simp [results, Tryz.results33, go_sem, y2, y3]; try rfl) rfl ?_
          all_goals exact (HFIN _ 0 (by rw [HS.out, FU.out]) (by repeat (first | (with_reducible exact Grew.refl _) | (with_reducible refine Grew.drewN ?_ _) | (with_reducible refine Grew.drew ?_))) _ _).out
      · have e0 : ((s : Int) == 0) = false := by simpa using (by omega : ¬ (s : Int) = 0)
        have e0' : decide ((s : Int) = 0) = false := decide_eq_false (by omega)
        have FU : Hid (fullS size L s = s) := by show _ = _; unfold fullS; rw [if_neg (fun h => hs0 h.1)]
        clear hs0
        go_wp2_with fail
        go_quiet (fail)
        go_wp2_with fail
        go_region
        all_goals go_wp2_with fail
        all_goals refine bodyPost_ret (by simp [results, Tryz.results33, go_sem, y2, y3]; try rfl) rfl ?_
        all_goals exact (HFIN _ s (by rw [HS.out, FU.out]) (by repeat (first | (with_reducible exact Grew.refl _) | (with_reducible refine Grew.drewN ?_ _) | (with_reducible refine Grew.drew ?_))) _ _).out
  · have HLS : Hid (lookS size L = fullS size L s1) := by show _ = _; unfold lookS; rw [HS1.out, if_neg h2]
    have e5 : ((s1 : Int) == 2) = false := by simpa using (by omega : ¬ (s1 : Int) = 2)
    have e5' : decide ((s1 : Int) = 2) = false := decide_eq_false (by omega)
    have HAY := HAX
    have HNY := HNX
    have GY := GX
    have HY : Hid (lookS size L = 2 → kk = (standOf size L).2.1 ∧ j = (standOf size L).2.2.2 ∧ Own V.heap.size 5 .u8 X (.slice A m c) (standOf size L).2.2.1) := fun h => by
      have h' := HLS.out.symm.trans h
      unfold fullS at h'
      by_cases hc : s1 = 0 ∧ L.length = size ∧ 0 < L.length
      · rw [if_pos hc] at h'; omega
      · rw [if_neg hc] at h'; exact absurd h' h2
    have HS : Hid (lookS size L = fullS size L s1) := HLS
    have hn : j ≤ 10000 := by omega
    have e6 : ¬ (s1 : Int) = 2 := by omega
    generalize s1 = s at *
    generalize hjn : j = n at *
    clear HAX HNX GX HSX HS1 HLS h2 hj
    go_upto_region 8 with fail
    clear e5 e5' e6 HBX hjn
    have HFIN : ∀ Z (s' : Nat), lookS size L = s' → Grew X Z → ∀ x y, Hid (LookT R0 size L w (.returned (.tuple #[.agg #[.int .u8 (kk : Nat), .slice A m c], .int .i64 (n : Nat), .int .i64 (s' : Nat)])) ((Z.setCell ⟨w.heap.size + 1, 0, none⟩ x).setCell ⟨w.heap.size + 1, 1, none⟩ y)) := fun Z s' hS g x y => by
      have FW : Far (fun q => q = w.heap.size + 1) Z ((Z.setCell ⟨w.heap.size + 1, 0, none⟩ x).setCell ⟨w.heap.size + 1, 1, none⟩ y) := far_at x y
      have h1 := HFD.out.1
      refine ⟨kk, A, m, c, n, by rw [← h1, hS], hkk, hn, fun h => ?_, (HP.out.far _ _ _ ((HAY.out.grew HP.out g).r) FW (fun q hq e => by have := HLT.out q hq; omega)), ((GY.out.trans g).setCell (by simp only; omega) _).setCell (by simp only; omega) _⟩
      have h2 : lookS size L = 2 := by rw [h1, h]; rfl
      obtain ⟨f1, f2, f3⟩ := HY.out h2
      exact ⟨f1, f2, own_base ((f3.grew g).far FW (fun q hq e => by have := (World.ownsRow.lt (f3.grew g) q hq).1; omega)) (by omega)⟩
    have QL : ∀ Z, Grew X Z → Hid (Calls Tryz.prog 18 #[.pointer p] Z fun e w' => e = .returned (.int .i64 (L.length : Nat)) ∧ Z = w') := fun Z g => Lib.hid (HQ.out.ln Z ((HAY.out.grew HP.out g).r))
    have QS : ∀ Z, Grew X Z → Hid (Calls Tryz.prog 53 #[.pointer p] Z fun e w' => e = .returned (.int .i64 (size : Nat)) ∧ Z = w') := fun Z g => Lib.hid (HQ.out.sz Z ((HAY.out.grew HP.out g).r))
    have yca := HAY.out.ca
    have ycb := HAY.out.cb
    have hyl := HAY.out.la
    obtain ⟨y1, y2, y3, y4, y5⟩ := HNY.out
    clear HAY HNY GY HY HFD HLT HQ HP
    by_cases hs0 : s = 0
    · subst hs0
      have G := Lib.hid (Grew.refl X)
      by_cases hls : L.length = size
      · have e1 : ((L.length : Int) == size) = true := by simpa using (by omega : (L.length : Int) = size)
        have e1' : decide ((L.length : Int) = size) = true := decide_eq_true (by omega)
        by_cases hl0 : 0 < L.length
        · have e2 : decide ((0 : Int) < L.length) = true := decide_eq_true (by omega)
          have e3 : (0 : Int) < L.length := by omega
          have FU : Hid (fullS size L 0 = 1) := by show _ = _; unfold fullS; rw [if_pos ⟨rfl, hls, hl0⟩]
          clear hls hl0
          go_wp2_with fail
          go_quiet (first | (go_at_call 18; exact Calls.quiet_of_same ((QL _ ((Grew.refl _).drewN _)).out.mono fun _ _ h => ⟨h.1, h.2.symm⟩)) | (go_at_call 53; exact Calls.quiet_of_same ((QS _ ((Grew.refl _).drewN _)).out.mono fun _ _ h => ⟨h.1, h.2.symm⟩)))
          go_wp2_with fail
          go_region
          all_goals go_wp2_with fail
          all_goals refine bodyPost_ret (by simp [results, Tryz.results33, go_sem, y2, y3]; try rfl) rfl ?_
          all_goals exact (HFIN _ 1 (by rw [HS.out, FU.out]) (by repeat (first | (with_reducible exact Grew.refl _) | (with_reducible refine Grew.drewN ?_ _) | (with_reducible refine Grew.drew ?_))) _ _).out
        · have e2 : decide ((0 : Int) < L.length) = false := decide_eq_false (by omega)
          have e3 : ¬ (0 : Int) < L.length := by omega
          have e4 : ¬ 0 < L.length := hl0
          have FU : Hid (fullS size L 0 = 0) := by show _ = _; unfold fullS; rw [if_neg (fun h => hl0 h.2.2)]
          clear hls hl0
          go_wp2_with fail
          go_quiet (first | (go_at_call 18; exact Calls.quiet_of_same ((QL _ ((Grew.refl _).drewN _)).out.mono fun _ _ h => ⟨h.1, h.2.symm⟩)) | (go_at_call 53; exact Calls.quiet_of_same ((QS _ ((Grew.refl _).drewN _)).out.mono fun _ _ h => ⟨h.1, h.2.symm⟩)))
          go_wp2_with fail
          go_region
          all_goals go_wp2_with fail
          all_goals refine bodyPost_ret (by simp [results, Tryz.results33, go_sem, y2, y3]; try rfl) rfl ?_
          all_goals exact (HFIN _ 0 (by rw [HS.out, FU.out]) (by repeat (first | (with_reducible exact Grew.refl _) | (with_reducible refine Grew.drewN ?_ _) | (with_reducible refine Grew.drew ?_))) _ _).out
      · have e1 : ((L.length : Int) == size) = false := by simpa using (by omega : ¬ (L.length : Int) = size)
        have e1' : decide ((L.length : Int) = size) = false := decide_eq_false (by omega)
        have FU : Hid (fullS size L 0 = 0) := by show _ = _; unfold fullS; rw [if_neg (fun h => hls h.2.1)]
        clear hls
        go_wp2_with fail
        go_quiet (first | (go_at_call 18; exact Calls.quiet_of_same ((QL _ ((Grew.refl _).drewN _)).out.mono fun _ _ h => ⟨h.1, h.2.symm⟩)) | (go_at_call 53; exact Calls.quiet_of_same ((QS _ ((Grew.refl _).drewN _)).out.mono fun _ _ h => ⟨h.1, h.2.symm⟩)))
        go_wp2_with fail
        go_region
        all_goals go_wp2_with fail
        all_goals refine bodyPost_ret (by simp [results, Tryz.results33, go_sem, y2, y3]; try rfl) rfl ?_
        all_goals exact (HFIN _ 0 (by rw [HS.out, FU.out]) (by repeat (first | (with_reducible exact Grew.refl _) | (with_reducible refine Grew.drewN ?_ _) | (with_reducible refine Grew.drew ?_))) _ _).out
    · have e0 : ((s : Int) == 0) = false := by simpa using (by omega : ¬ (s : Int) = 0)
      have e0' : decide ((s : Int) = 0) = false := decide_eq_false (by omega)
      have FU : Hid (fullS size L s = s) := by show _ = _; unfold fullS; rw [if_neg (fun h => hs0 h.1)]
      clear hs0
      go_wp2_with fail
      go_quiet (fail)
      go_wp2_with fail
      go_region
      all_goals go_wp2_with fail
      all_goals refine bodyPost_ret (by simp [results, Tryz.results33, go_sem, y2, y3]; try rfl) rfl ?_
      all_goals exact (HFIN _ s (by rw [HS.out, FU.out]) (by repeat (first | (with_reducible exact Grew.refl _) | (with_reducible refine Grew.drewN ?_ _) | (with_reducible refine Grew.drew ?_))) _ _).out
end
/- The program's frames: a ring that is looked at; one that is not there. -/
/-- The length and the room of a ring, asked of it: nothing turns. -/
theorem quiet_isMade (w : World) (g size first held : Nat) (ns : List Nat) (lost : Nat) (h : ProgAt w g size first held ns lost) :
    Calls Tryz.prog 30 #[.pointer (some ⟨g, 0, none⟩)] w fun e w' => e = .returned (.bool true) ∧ w = w' := by
  have c1 := h.c1
  have hs := h.hs
  have hz : 0 < size := by omega
  clear h
  go_enter Tryz.func30, Tryz.ntmps30
  go_wp2_with fail
  go_ret
  exact ⟨by simp, rfl⟩
theorem quiet_noMade (w : World) : Calls Tryz.prog 30 #[.pointer none] w fun e w' => e = .returned (.bool false) ∧ w = w' := by
  go_enter Tryz.func30, Tryz.ntmps30
  go_wp2_with fail
  go_ret
  exact ⟨rfl, rfl⟩
theorem quiet_Len (w : World) (g size first held : Nat) (ns : List Nat) (lost : Nat) (h : ProgAt w g size first held ns lost) :
    Calls Tryz.prog 18 #[.pointer (some ⟨g, 0, none⟩)] w fun e w' => e = .returned (.int .i64 held) ∧ w = w' := by
  have H := Lib.hid (quiet_isMade w g size first held ns lost h)
  have c3 := h.c3
  clear h
  go_enter Tryz.func18, Tryz.ntmps18
  go_wp2_with fail
  refine H.out.mono ?_
  rintro e w1 ⟨rfl, rfl⟩
  go_wp2_with fail
  go_ret
  exact ⟨rfl, rfl⟩
theorem quiet_Size (w : World) (g size first held : Nat) (ns : List Nat) (lost : Nat) (h : ProgAt w g size first held ns lost) :
    Calls Tryz.prog 53 #[.pointer (some ⟨g, 0, none⟩)] w fun e w' => e = .returned (.int .i64 size) ∧ w = w' := by
  have H := Lib.hid (quiet_isMade w g size first held ns lost h)
  have c3 := h.c1
  clear h
  go_enter Tryz.func53, Tryz.ntmps53
  go_wp2_with fail
  refine H.out.mono ?_
  rintro e w1 ⟨rfl, rfl⟩
  go_wp2_with fail
  go_ret
  exact ⟨rfl, rfl⟩
theorem quiet_noLen (w : World) : Calls Tryz.prog 18 #[.pointer none] w fun e w' => e = .returned (.int .i64 0) ∧ w = w' := by
  have H := fun w => Lib.hid (quiet_noMade w)
  go_enter Tryz.func18, Tryz.ntmps18
  go_wp2_with fail
  refine (H _).out.mono ?_
  rintro e w1 ⟨rfl, rfl⟩
  go_wp2_with fail
  go_ret
  exact ⟨rfl, rfl⟩
theorem quiet_noSize (w : World) : Calls Tryz.prog 53 #[.pointer none] w fun e w' => e = .returned (.int .i64 0) ∧ w = w' := by
  have H := fun w => Lib.hid (quiet_noMade w)
  go_enter Tryz.func53, Tryz.ntmps53
  go_wp2_with fail
  refine (H _).out.mono ?_
  rintro e w1 ⟨rfl, rfl⟩
  go_wp2_with fail
  go_ret
  exact ⟨rfl, rfl⟩

theorem looked_ring (v : Value) (F : Nat → Prop) (size : Nat) (L : List Nat) (lost : Nat) (w0 : World) (h0 : ProgR w0 v F size L lost) : Looked (fun w => ProgR w v F size L lost) v F size L where
  far := fun w w' G h g hG => ring_calls.far w w' v F G size L lost h g hG
  lt := fun w b h hb => ring_calls.lt w v F size L lost b h hb
  at_ := fun w k h hk => (ring_calls.at_ w v F size L lost (k : Int) h (by omega) trivial).mono (by
    rintro e w' ⟨rfl, g⟩
    refine ⟨?_, g⟩
    by_cases hc : k < L.length
    · rw [if_pos (by omega : (0 : Int) ≤ (k : Int) ∧ (k : Int) < (L.length : Int)), decide_eq_true (by omega : (0 : Int) ≤ (k : Int) ∧ (k : Int) < (L.length : Int)), decide_eq_true hc, Int.toNat_natCast]
    · rw [if_neg (by omega : ¬ ((0 : Int) ≤ (k : Int) ∧ (k : Int) < (L.length : Int))), decide_eq_false (by omega : ¬ ((0 : Int) ≤ (k : Int) ∧ (k : Int) < (L.length : Int))), decide_eq_false hc, show wd L k = 0 from by unfold wd; rw [List.getD_eq_getElem?_getD, List.getElem?_eq_none (by omega)]; rfl]
      rfl)
  ln := fun w h => ring_calls.len w v F size L lost h trivial
  sz := fun w h => ring_calls.size w v F size L lost h trivial
  bytes := (ring_calls.inv w0 v F size L lost h0).2.2
  ll := (ring_calls.inv w0 v F size L lost h0).2.1
  ls := (ring_calls.inv w0 v F size L lost h0).1.2
  p := by obtain ⟨g, first, e, _⟩ := h0; exact .inl ⟨g, e⟩
theorem quiet_ring (v : Value) (F : Nat → Prop) (size : Nat) (L : List Nat) (lost : Nat) : Quiet (fun w => ProgR w v F size L lost) v size L where
  ln := fun w ⟨g, first, e, _, h⟩ => by subst e; exact quiet_Len w g size first L.length L lost h
  sz := fun w ⟨g, first, e, _, h⟩ => by subst e; exact quiet_Size w g size first L.length L lost h
theorem looked_none : Looked (fun _ => True) (.pointer none) (fun _ => False) 0 [] where
  far := fun _ _ _ _ _ _ => trivial
  lt := fun _ _ _ h => h.elim
  at_ := fun w k _ hk => (ring_calls.nat w (k : Int) (by omega) trivial).mono (by rintro e w' ⟨rfl, g⟩; exact ⟨rfl, g⟩)
  ln := fun w _ => ring_calls.nlen w trivial
  sz := fun w _ => ring_calls.nsize w trivial
  bytes := Bytes.of_mem (by simp)
  ll := Nat.le_refl _
  ls := by omega
  p := .inr rfl
theorem quiet_none : Quiet (fun _ => True) (.pointer none) 0 [] where
  ln := fun w _ => quiet_noLen w
  sz := fun w _ => quiet_noSize w
/- The program's frames: what is taken out next. -/
theorem drop_same (w : World) (v : Value) (F : Nat → Prop) (size : Nat) (L : List Nat) (lost : Nat) (n : Int) (h : ProgR w v F size L lost) (hn : -9223372036854775808 ≤ n ∧ n ≤ 9223372036854775807) :
    Calls Tryz.prog 31 #[v, .int .i64 n] w fun e w' => e = .returned (.int .i64 ((min n.toNat L.length : Nat) : Int)) ∧ ProgR w' v F size (L.drop (min n.toNat L.length)) lost ∧ Far F w w' := by
  obtain ⟨g, first, rfl, hF, h⟩ := h
  refine (ring_Drop w g size first L lost n h hn).mono ?_
  rintro e w' ⟨f', rfl, hP, hf⟩
  exact ⟨rfl, ⟨g, f', rfl, hF, hP⟩, hf.mono (fun k _ hk => (hF k).2 hk)⟩

theorem stand_le (size : Nat) (L : List Nat) : (standOf size L).1 ≤ 2 := by
  unfold standOf
  repeat' split
  all_goals simp
theorem stand_zero {size : Nat} {L : List Nat} (h : (standOf size L).1 = 0) : nextOf size L = (none, 0, L) := by
  cases L with
  | nil => rfl
  | cons x L => unfold nextOf; rw [if_pos h]
theorem stand_some {size : Nat} {L : List Nat} (h : (standOf size L).1 ≠ 0) : 0 < L.length := by
  cases L with
  | nil => exact absurd rfl h
  | cons x L => simp
theorem stand_one {size : Nat} {L : List Nat} (h : (standOf size L).1 = 1) : nextOf size L = (some ((standOf size L).2.1, (standOf size L).2.2.1), 0, L.drop (standOf size L).2.2.2) := by
  cases L with
  | nil => exact absurd h (by simp [standOf])
  | cons x L => unfold nextOf; rw [if_neg (by omega), if_pos h]
theorem stand_two {size : Nat} {L : List Nat} (h : (standOf size L).1 = 2) : nextOf size L = ((nextOf size (L.drop 1)).1, (nextOf size (L.drop 1)).2.1 + 1, (nextOf size (L.drop 1)).2.2) := by
  cases L with
  | nil => exact absurd h (by simp [standOf])
  | cons x L =>
    conv => lhs; unfold nextOf
    rw [if_neg (by omega), if_neg (by omega)]
    rfl
theorem stand_fits {size : Nat} {L : List Nat} (h : (standOf size L).1 = 1) : (standOf size L).2.2.2 ≤ L.length := by
  unfold standOf at h ⊢
  by_cases h0 : L.length = 0
  · rw [if_pos h0] at h; exact absurd h (by decide)
  · rw [if_neg h0] at h ⊢
    by_cases h1 : (bodyOf size L).2.2.2 = true
    · rw [if_pos h1] at h; exact absurd h (by simp)
    · rw [if_neg h1] at h ⊢
      by_cases h2 : (bodyOf size L).2.2.1 = true ∧ common (frameBytes (bodyOf size L).1 (bodyOf size L).2.1) L = (frameBytes (bodyOf size L).1 (bodyOf size L).2.1).length
      · rw [if_pos h2]
        have := (common_le (frameBytes (bodyOf size L).1 (bodyOf size L).2.1) L).2
        rw [h2.2] at this
        exact this
      · rw [if_neg h2] at h
        revert h
        split
        · intro h; exact absurd h (by simp)
        · split
          · intro h; exact absurd h (by simp)
          · intro h; exact absurd h (by simp)

/-- How far it has come: so many bytes were dropped as wrong. -/
def Upon (size : Nat) (L : List Nat) (d : Nat) (L' : List Nat) : Prop := nextOf size L = ((nextOf size L').1, (nextOf size L').2.1 + d, (nextOf size L').2.2) ∧ L'.length + d = L.length
theorem Upon.zero (size : Nat) (L : List Nat) : Upon size L 0 L := ⟨rfl, rfl⟩
theorem Upon.more {size : Nat} {L L' : List Nat} {d : Nat} (h : Upon size L d L') (h2 : (standOf size L').1 = 2) : Upon size L (d + 1) (L'.drop 1) := by
  have hp := stand_some (size := size) (L := L') (by rw [h2]; omega)
  refine ⟨?_, by rw [List.length_drop]; have := h.2; omega⟩
  rw [h.1, stand_two h2]
  simp only [Prod.mk.injEq, true_and, and_true]
  omega

/-- What is taken out, in memory of its own. -/
def NextO (v : Value) (F : Nat → Prop) (size : Nat) (L : List Nat) (lost : Nat) (w : World) (e : Ending) (w' : World) : Prop :=
  ∃ A m c, e = .returned (.tuple #[.agg #[.int .u8 ((frameOf (nextOf size L).1).1 : Nat), .slice A m c], .bool (nextOf size L).1.isSome, .int .i64 ((nextOf size L).2.1 : Nat)]) ∧ Own w.heap.size 5 .u8 w' (.slice A m c) (frameOf (nextOf size L).1).2 ∧ (frameOf (nextOf size L).1).1 < 256 ∧ ProgR w' v F size (nextOf size L).2.2 lost ∧ Far F w w'
set_option maxRecDepth 100000 in
set_option maxHeartbeats 4000000 in
theorem prog_NextO (w : World) (v : Value) (F : Nat → Prop) (size : Nat) (L : List Nat) (lost : Nat) (h : ProgR w v F size L lost) :
    Calls Tryz.prog 17 #[v] w (NextO v F size L lost w) := by
  have hp : ∃ g, v = .pointer (some ⟨g, 0, none⟩) := by obtain ⟨g, first, e, _⟩ := h; exact ⟨g, e⟩
  obtain ⟨g, rfl⟩ := hp
  have HL := fun wr L' (q : ProgR wr (.pointer (some ⟨g, 0, none⟩)) F size L' lost) => Lib.hid (look_look (looked_ring _ F size L' lost wr q) (quiet_ring _ F size L' lost) wr q)
  have HD := fun wr L' (n : Int) (q : ProgR wr (.pointer (some ⟨g, 0, none⟩)) F size L' lost) hn => Lib.hid (drop_same wr _ F size L' lost n q hn)
  have HLT := Lib.hid (fun y (hy : F y) => ring_calls.lt w _ F size L lost y h hy)
  have HLL := Lib.hid (ring_calls.inv w _ F size L lost h)
  go_enter Tryz.func17, Tryz.ntmps17
  go_upto_region 1 with fail
  obtain ⟨W, hW, gW, NW, hWs⟩ := newF w 51
  rw [hW]
  have HR := Lib.hid (ring_calls.grew h gW)
  clear hW h hWs
  go_wp2_with fail
  go_loopw [5] (fun s wr => ∃ (d : Nat) (L' : List Nat), s = .int .i64 (d : Nat) ∧ Hid (Upon size L d L') ∧ d ≤ L.length ∧ Hid (ProgR wr (.pointer (some ⟨g, 0, none⟩)) F size L' lost) ∧ Hid (NewF wr w.heap.size) ∧ Hid (Far F w wr)) (fun s _ => L.length - (intOf s).toNat)
  case atStart => exact ⟨0, L, rfl, Upon.zero _ _, by omega, HR.out, NW, Far.of_grew gW⟩
  case round =>
    clear HR NW
    obtain ⟨d, L', rfl, hU, hd, hR, hN, hF⟩ := hrel
    have hLL := HLL.out
    have hdl : d + L'.length = L.length := by have := hU.out.2; omega
    have H1 := HL wr L' hR.out
    unfold LookT at H1
    obtain ⟨st, hst⟩ : ∃ st, (standOf size L').1 = st := ⟨_, rfl⟩
    have hst2 : st ≤ 2 := by rw [← hst]; exact stand_le _ _
    rw [hst] at H1
    have HST := Lib.hid hst
    clear hst HL
    go_upto_region 3 with (go_at_call 33; refine H1.out.mono ?_; rintro e w1 ⟨k, A, m, c, n, rfl, hk, hn, hs, hR1, hG1⟩)
    have hG2 := hG1
    obtain ⟨X, hX, gX, x0, hXl, x1, hXs⟩ := newB w1 (.int .u8 (k : Nat)) (.slice A m c) 51
    rw [hX]
    have GX := hG1.trans gX
    have hRX := Lib.hid (ring_calls.grew hR1 gX)
    have hNX := hN.out.grew GX
    have hFX := Lib.hid (hF.out.trans (Far.of_grew GX))
    have HSX := Lib.hid (fun h : st = 1 => (show k = (standOf size L').2.1 ∧ n = (standOf size L').2.2.2 ∧ Own wr.heap.size 5 .u8 X (.slice A m c) (standOf size L').2.2.1 from ⟨(hs h).1, (hs h).2.1, (hs h).2.2.grew gX⟩))
    have hwr : w.heap.size < wr.heap.size := hN.out.lt
    have hw1 : wr.heap.size ≤ w1.heap.size := hG1.size
    have HNX := Lib.hid hNX
    generalize hfb : w1.heap.size = fb at *
    clear hX gX hXs hR1 hs H1 hG1 hG2 GX hNX hfb
    rcases (show st = 0 ∨ st = 1 ∨ st = 2 by omega) with rfl | rfl | rfl
    · have hz := stand_zero HST.out
      have hnx := hU.out.1
      rw [hz] at hnx
      simp only [Nat.zero_add] at hnx
      rw [show prS 0 = 0 from rfl]
      obtain ⟨n1, n2, n3, n4, n5⟩ := HNX.out
      have HR2 : ∀ x y, Hid (ProgR ((X.setCell ⟨w.heap.size, 0, none⟩ x).setCell ⟨w.heap.size, 1, none⟩ y) (.pointer (some ⟨g, 0, none⟩)) F size L' lost ∧ Far F w ((X.setCell ⟨w.heap.size, 0, none⟩ x).setCell ⟨w.heap.size, 1, none⟩ y)) := fun x y =>
        ⟨ring_calls.far _ _ _ _ (fun q => q = w.heap.size) _ _ _ hRX.out (far_at x y) (fun q hq e => by have := HLT.out q hq; omega), hFX.out.beyond (far_at x y) (fun q hq => .inr (by omega))⟩
      have HNX2 := Lib.hid hnx
      clear hR hN hF hz hnx HSX HD HNX hU hRX hFX
      go_wp2_with fail
      refine bodyPost_ret (by simp [results, Tryz.results17, go_sem, n2, n3]; try rfl) rfl ?_
      refine ⟨none, 0, 0, by rw [HNX2.out]; rfl, by rw [HNX2.out]; exact Own.nil _ _ _ _, by rw [HNX2.out]; show 0 < 256; omega, by rw [HNX2.out]; exact (HR2 _ _).out.1, (HR2 _ _).out.2⟩
    · have hz := stand_one HST.out
      have hfit := stand_fits HST.out
      have hnx := hU.out.1
      rw [hz] at hnx
      simp only [Nat.zero_add] at hnx
      rw [show prS 1 = 2 from rfl]
      obtain ⟨rfl, rfl, hO⟩ := HSX.out rfl
      have hDr := HD X L' ((standOf size L').2.2.2 : Nat) hRX.out (by omega)
      have HOX := Lib.hid hO
      have HNX2 := Lib.hid hnx
      generalize (standOf size L').2.2.2 = n at *
      generalize (standOf size L').2.2.1 = ns at *
      generalize (standOf size L').2.1 = k at *
      simp only [Int.toNat_natCast, Nat.min_eq_left hfit] at hDr
      clear hR hN hF hz hnx HSX HD hU hO hRX
      go_upto_region 9 with (go_at_call 31; refine hDr.out.mono ?_; rintro e w2 ⟨rfl, hR2, hF2⟩)
      have hF2' := hF2
      obtain ⟨n1, n2, n3, n4, n5⟩ := HNX.out.far hF2 (fun e => by have := HLT.out _ e; omega)
      have z0 := (hF2.cell (p := ⟨fb, 0, none⟩) hXl (fun e => by have h1 : fb < w.heap.size := HLT.out _ e; omega)).trans x0
      have z1 := (hF2.cell (p := ⟨fb, 1, none⟩) hXl (fun e => by have h1 : fb < w.heap.size := HLT.out _ e; omega)).trans x1
      have hO2 := HOX.out.far hF2 (fun q hq e => by have h1 := HLT.out _ e; have h2 := (World.ownsRow.lt HOX.out q hq).1; omega)
      have HFIN : ∀ x y, Hid (ProgR ((w2.setCell ⟨w.heap.size, 0, none⟩ x).setCell ⟨w.heap.size, 1, none⟩ y) (.pointer (some ⟨g, 0, none⟩)) F size (L'.drop n) lost ∧ Far F w ((w2.setCell ⟨w.heap.size, 0, none⟩ x).setCell ⟨w.heap.size, 1, none⟩ y) ∧ Own wr.heap.size 5 .u8 ((w2.setCell ⟨w.heap.size, 0, none⟩ x).setCell ⟨w.heap.size, 1, none⟩ y) (.slice A m c) ns) := fun x y =>
        ⟨ring_calls.far _ _ _ _ (fun q => q = w.heap.size) _ _ _ hR2 (far_at x y) (fun q hq e => by have := HLT.out q hq; omega), (hFX.out.trans hF2).beyond (far_at x y) (fun q hq => .inr (by omega)), hO2.far (far_at x y) (fun q hq e => by have := (World.ownsRow.lt hO2 q hq).1; omega)⟩
      have HO2 := Lib.hid hO2
      clear hR2 hF2 hF2' HNX hFX hDr hO2 HOX x0 x1
      go_wp2_with fail
      refine bodyPost_ret (by simp [results, Tryz.results17, go_sem, n2, n3]; try rfl) rfl ?_
      exact ⟨A, m, c, by rw [HNX2.out]; rfl, by rw [HNX2.out]; exact own_base (HFIN _ _).out.2.2 (by omega), by rw [HNX2.out]; exact hk, by rw [HNX2.out]; exact (HFIN _ _).out.1, (HFIN _ _).out.2.1⟩
    · have hpos := stand_some (size := size) (L := L') (by rw [HST.out]; omega)
      have hUU := Lib.hid (hU.out.more HST.out)
      rw [show prS 2 = 1 from rfl]
      have hDr := HD X L' 1 hRX.out (by omega)
      simp only [Int.toNat_one, Nat.min_eq_left (show 1 ≤ L'.length from hpos)] at hDr
      clear hR hN hF HSX HD hU hRX HST
      go_wp2_with (go_at_call 31; refine hDr.out.mono ?_; rintro e w2 ⟨rfl, hR2, hF2⟩)
      have hN2 := Lib.hid (HNX.out.far hF2 (fun e => by have := HLT.out _ e; omega))
      have hF3 := Lib.hid (hFX.out.trans hF2)
      have hR3 := Lib.hid hR2
      clear hR2 hF2 HNX hFX hDr x0 x1
      go_roundw
      case rel => exact ⟨d + 1, L'.drop 1, by simp, hUU, by omega, hR3, hN2, hF3⟩
      case measure => simp [intOf]; omega
theorem prog_Next (w : World) (v : Value) (F : Nat → Prop) (size : Nat) (L : List Nat) (lost : Nat) (h : ProgR w v F size L lost) :
    Calls Tryz.prog 17 #[v] w (NextTells ProgR v F size L lost w) := by
  refine (prog_NextO w v F size L lost h).mono ?_
  rintro e w' ⟨A, m, c, rfl, hO, hk, hR, hF⟩
  exact ⟨F, _, rfl, hO.row, hk, fun hn b hb => ⟨(World.ownsRow.lt hO b hb).1, fun e => by have h1 := ring_calls.lt w v F size L lost b h e; have h2 := (World.ownsRow.lt hO b hb).1; omega⟩, hR, fun b hb => .inl hb, hF⟩

set_option maxRecDepth 100000 in
set_option maxHeartbeats 1000000 in
theorem prog_noNext (w : World) : Calls Tryz.prog 17 #[.pointer none] w fun e w' => (∃ k A n c, e = .returned (.tuple #[.agg #[.int .u8 k, .slice A n c], .bool false, .int .i64 0])) ∧ Grew w w' := by
  have HL := fun wr => Lib.hid (look_look looked_none quiet_none wr trivial)
  unfold LookT at HL
  rw [show prS (standOf 0 []).1 = 0 from rfl] at HL
  go_enter Tryz.func17, Tryz.ntmps17
  go_upto_region 1 with fail
  obtain ⟨W, hW, gW, NW, hWs⟩ := newF w 51
  rw [hW]
  clear hW hWs
  go_wp2_with fail
  go_loopw [5] (fun s wr => s = .int .i64 0 ∧ Hid (NewF wr w.heap.size) ∧ Hid (Grew w wr)) (fun s _ => 0)
  case atStart => exact ⟨rfl, NW, gW⟩
  case round =>
    clear NW
    obtain ⟨rfl, hN, hG⟩ := hrel
    have H1 := HL wr
    clear HL
    go_upto_region 3 with (go_at_call 33; refine H1.out.mono ?_; rintro e w1 ⟨k, A, m, c, n, rfl, hk, hn, hs, hR1, hG1⟩)
    obtain ⟨X, hX, gX, x0, hXl, x1, hXs⟩ := newB w1 (.int .u8 (k : Nat)) (.slice A m c) 51
    rw [hX]
    have GX := Lib.hid (hG.out.trans (hG1.trans gX))
    obtain ⟨n1, n2, n3, n4, n5⟩ := hN.out.grew (hG1.trans gX)
    clear hX gX hXs hR1 hs H1 hG1 hN hG x0 x1 hXl
    go_wp2_with fail
    refine bodyPost_ret (by simp [results, Tryz.results17, go_sem, n2, n3]; try rfl) rfl ?_
    exact ⟨⟨_, _, _, _, rfl⟩, (GX.out.setCell (Nat.le_refl _) _).setCell (Nat.le_refl _) _⟩
end Go.Proofs.YtlcmjedbdopglaaGreatDoor
