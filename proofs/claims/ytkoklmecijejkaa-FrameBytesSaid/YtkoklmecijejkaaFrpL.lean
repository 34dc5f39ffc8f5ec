/-
  The program's frames: what is taken out next.
-/
import Derived.Test.YtkoklmecijejkaaFrpK
namespace Go.Proofs.Ytkoklmecijejkaa
open Go.RowKit
set_option linter.unusedVariables false

theorem drop_same (w : World) (v : Value) (F : Nat → Prop) (size : Nat) (L : List Nat) (lost : Nat) (n : Int) (h : ProgR w v F size L lost) (hn : -9223372036854775808 ≤ n ∧ n ≤ 9223372036854775807) :
    Calls Try.prog 22 #[v, .int .i64 n] w fun e w' => e = .returned (.int .i64 ((min n.toNat L.length : Nat) : Int)) ∧ ProgR w' v F size (L.drop (min n.toNat L.length)) lost ∧ Far F w w' := by
  obtain ⟨g, first, rfl, hF, h⟩ := h
  refine (ring_Drop w g size first L lost n h hn).mono ?_
  rintro e w' ⟨f', rfl, hP, hf⟩
  exact ⟨rfl, ⟨g, f', rfl, hF, hP⟩, hf.mono (fun k _ hk => (hF k).2 hk)⟩

theorem stand_le (size : Nat) (L : List Nat) : (standOf size L).1 ≤ 2 := by
  unfold standOf
  repeat' split
  all_goals simp
theorem stand_zero {size : Nat} {L : List Nat} (h : (standOf size L).1 = 0) : nextOf size L = (none, 0, L) := by
  cases L with
  | nil => rfl
  | cons x L => unfold nextOf; rw [if_pos h]
theorem stand_some {size : Nat} {L : List Nat} (h : (standOf size L).1 ≠ 0) : 0 < L.length := by
  cases L with
  | nil => exact absurd rfl h
  | cons x L => simp
theorem stand_one {size : Nat} {L : List Nat} (h : (standOf size L).1 = 1) : nextOf size L = (some ((standOf size L).2.1, (standOf size L).2.2.1), 0, L.drop (standOf size L).2.2.2) := by
  cases L with
  | nil => exact absurd h (by simp [standOf])
  | cons x L => unfold nextOf; rw [if_neg (by omega), if_pos h]
theorem stand_two {size : Nat} {L : List Nat} (h : (standOf size L).1 = 2) : nextOf size L = ((nextOf size (L.drop 1)).1, (nextOf size (L.drop 1)).2.1 + 1, (nextOf size (L.drop 1)).2.2) := by
  cases L with
  | nil => exact absurd h (by simp [standOf])
  | cons x L =>
    conv => lhs; unfold nextOf
    rw [if_neg (by omega), if_neg (by omega)]
    rfl
theorem stand_fits {size : Nat} {L : List Nat} (h : (standOf size L).1 = 1) : (standOf size L).2.2.2 ≤ L.length := by
  unfold standOf at h ⊢
  by_cases h0 : L.length = 0
  · rw [if_pos h0] at h; exact absurd h (by decide)
  · rw [if_neg h0] at h ⊢
    by_cases h1 : (bodyOf size L).2.2.2 = true
    · rw [if_pos h1] at h; exact absurd h (by simp)
    · rw [if_neg h1] at h ⊢
      by_cases h2 : (bodyOf size L).2.2.1 = true ∧ common (frameBytes (bodyOf size L).1 (bodyOf size L).2.1) L = (frameBytes (bodyOf size L).1 (bodyOf size L).2.1).length
      · rw [if_pos h2]
        have := (common_le (frameBytes (bodyOf size L).1 (bodyOf size L).2.1) L).2
        rw [h2.2] at this
        exact this
      · rw [if_neg h2] at h
        revert h
        split
        · intro h; exact absurd h (by simp)
        · split
          · intro h; exact absurd h (by simp)
          · intro h; exact absurd h (by simp)

/-- How far it has come: so many bytes were dropped as wrong. -/
def Upon (size : Nat) (L : List Nat) (d : Nat) (L' : List Nat) : Prop := nextOf size L = ((nextOf size L').1, (nextOf size L').2.1 + d, (nextOf size L').2.2) ∧ L'.length + d = L.length
theorem Upon.zero (size : Nat) (L : List Nat) : Upon size L 0 L := ⟨rfl, rfl⟩
theorem Upon.more {size : Nat} {L L' : List Nat} {d : Nat} (h : Upon size L d L') (h2 : (standOf size L').1 = 2) : Upon size L (d + 1) (L'.drop 1) := by
  have hp := stand_some (size := size) (L := L') (by rw [h2]; omega)
  refine ⟨?_, by rw [List.length_drop]; have := h.2; omega⟩
  rw [h.1, stand_two h2]
  simp only [Prod.mk.injEq, true_and, and_true]
  omega

/-- What is taken out, in memory of its own. -/
def NextO (v : Value) (F : Nat → Prop) (size : Nat) (L : List Nat) (lost : Nat) (w : World) (e : Ending) (w' : World) : Prop :=
  ∃ A m c, e = .returned (.tuple #[.agg #[.int .u8 ((frameOf (nextOf size L).1).1 : Nat), .slice A m c], .bool (nextOf size L).1.isSome, .int .i64 ((nextOf size L).2.1 : Nat)]) ∧ Own w.heap.size 5 .u8 w' (.slice A m c) (frameOf (nextOf size L).1).2 ∧ (frameOf (nextOf size L).1).1 < 256 ∧ ProgR w' v F size (nextOf size L).2.2 lost ∧ Far F w w'
set_option maxRecDepth 100000 in
set_option maxHeartbeats 4000000 in
theorem prog_NextO (w : World) (v : Value) (F : Nat → Prop) (size : Nat) (L : List Nat) (lost : Nat) (h : ProgR w v F size L lost) :
    Calls Try.prog 11 #[v] w (NextO v F size L lost w) := by
  have hp : ∃ g, v = .pointer (some ⟨g, 0, none⟩) := by obtain ⟨g, first, e, _⟩ := h; exact ⟨g, e⟩
  obtain ⟨g, rfl⟩ := hp
  have HL := fun wr L' (q : ProgR wr (.pointer (some ⟨g, 0, none⟩)) F size L' lost) => Lib.hid (look_look (looked_ring _ F size L' lost wr q) (quiet_ring _ F size L' lost) wr q)
  have HD := fun wr L' (n : Int) (q : ProgR wr (.pointer (some ⟨g, 0, none⟩)) F size L' lost) hn => Lib.hid (drop_same wr _ F size L' lost n q hn)
  have HLT := Lib.hid (fun y (hy : F y) => ring_calls.lt w _ F size L lost y h hy)
  have HLL := Lib.hid (ring_calls.inv w _ F size L lost h)
  go_enter Try.func11, Try.ntmps11
  go_upto_region 1 with fail
  obtain ⟨W, hW, gW, NW, hWs⟩ := newF w 34
  rw [hW]
  have HR := Lib.hid (ring_calls.grew h gW)
  clear hW h hWs
  go_wp2_with fail
  go_loopw [5] (fun s wr => ∃ (d : Nat) (L' : List Nat), s = .int .i64 (d : Nat) ∧ Hid (Upon size L d L') ∧ d ≤ L.length ∧ Hid (ProgR wr (.pointer (some ⟨g, 0, none⟩)) F size L' lost) ∧ Hid (NewF wr w.heap.size) ∧ Hid (Far F w wr)) (fun s _ => L.length - (intOf s).toNat)
  case atStart => exact ⟨0, L, rfl, Upon.zero _ _, by omega, HR.out, NW, Far.of_grew gW⟩
  case round =>
    clear HR NW
    obtain ⟨d, L', rfl, hU, hd, hR, hN, hF⟩ := hrel
    have hLL := HLL.out
    have hdl : d + L'.length = L.length := by have := hU.out.2; omega
    have H1 := HL wr L' hR.out
    unfold LookT at H1
    obtain ⟨st, hst⟩ : ∃ st, (standOf size L').1 = st := ⟨_, rfl⟩
    have hst2 : st ≤ 2 := by rw [← hst]; exact stand_le _ _
    rw [hst] at H1
    have HST := Lib.hid hst
    clear hst HL
    go_upto_region 3 with (go_at_call 24; refine H1.out.mono ?_; rintro e w1 ⟨k, A, m, c, n, rfl, hk, hn, hs, hR1, hG1⟩)
    have hG2 := hG1
    obtain ⟨X, hX, gX, x0, hXl, x1, hXs⟩ := newB w1 (.int .u8 (k : Nat)) (.slice A m c) 34
    rw [hX]
    have GX := hG1.trans gX
    have hRX := Lib.hid (ring_calls.grew hR1 gX)
    have hNX := hN.out.grew GX
    have hFX := Lib.hid (hF.out.trans (Far.of_grew GX))
    have HSX := Lib.hid (fun h : st = 1 => (show k = (standOf size L').2.1 ∧ n = (standOf size L').2.2.2 ∧ Own wr.heap.size 5 .u8 X (.slice A m c) (standOf size L').2.2.1 from ⟨(hs h).1, (hs h).2.1, (hs h).2.2.grew gX⟩))
    have hwr : w.heap.size < wr.heap.size := hN.out.lt
    have hw1 : wr.heap.size ≤ w1.heap.size := hG1.size
    have HNX := Lib.hid hNX
    generalize hfb : w1.heap.size = fb at *
    clear hX gX hXs hR1 hs H1 hG1 hG2 GX hNX hfb
    rcases (show st = 0 ∨ st = 1 ∨ st = 2 by omega) with rfl | rfl | rfl
    · have hz := stand_zero HST.out
      have hnx := hU.out.1
      rw [hz] at hnx
      simp only [Nat.zero_add] at hnx
      rw [show prS 0 = 0 from rfl]
      obtain ⟨n1, n2, n3, n4, n5⟩ := HNX.out
      have HR2 : ∀ x y, Hid (ProgR ((X.setCell ⟨w.heap.size, 0, none⟩ x).setCell ⟨w.heap.size, 1, none⟩ y) (.pointer (some ⟨g, 0, none⟩)) F size L' lost ∧ Far F w ((X.setCell ⟨w.heap.size, 0, none⟩ x).setCell ⟨w.heap.size, 1, none⟩ y)) := fun x y =>
        ⟨ring_calls.far _ _ _ _ (fun q => q = w.heap.size) _ _ _ hRX.out (far_at x y) (fun q hq e => by have := HLT.out q hq; omega), hFX.out.beyond (far_at x y) (fun q hq => .inr (by omega))⟩
      have HNX2 := Lib.hid hnx
      clear hR hN hF hz hnx HSX HD HNX hU hRX hFX
      go_wp2_with fail
      refine bodyPost_ret (by simp [results, Try.results11, go_sem, n2, n3]; try rfl) rfl ?_
      refine ⟨none, 0, 0, by rw [HNX2.out]; rfl, by rw [HNX2.out]; exact Own.nil _ _ _ _, by rw [HNX2.out]; show 0 < 256; omega, by rw [HNX2.out]; exact (HR2 _ _).out.1, (HR2 _ _).out.2⟩
    · have hz := stand_one HST.out
      have hfit := stand_fits HST.out
      have hnx := hU.out.1
      rw [hz] at hnx
      simp only [Nat.zero_add] at hnx
      rw [show prS 1 = 2 from rfl]
      obtain ⟨rfl, rfl, hO⟩ := HSX.out rfl
      have hDr := HD X L' ((standOf size L').2.2.2 : Nat) hRX.out (by omega)
      have HOX := Lib.hid hO
      have HNX2 := Lib.hid hnx
      generalize (standOf size L').2.2.2 = n at *
      generalize (standOf size L').2.2.1 = ns at *
      generalize (standOf size L').2.1 = k at *
      simp only [Int.toNat_natCast, Nat.min_eq_left hfit] at hDr
      clear hR hN hF hz hnx HSX HD hU hO hRX
      go_upto_region 9 with (go_at_call 22; refine hDr.out.mono ?_; rintro e w2 ⟨rfl, hR2, hF2⟩)
      have hF2' := hF2
      obtain ⟨n1, n2, n3, n4, n5⟩ := HNX.out.far hF2 (fun e => by have := HLT.out _ e; omega)
      have z0 := (hF2.cell (p := ⟨fb, 0, none⟩) hXl (fun e => by have h1 : fb < w.heap.size := HLT.out _ e; omega)).trans x0
      have z1 := (hF2.cell (p := ⟨fb, 1, none⟩) hXl (fun e => by have h1 : fb < w.heap.size := HLT.out _ e; omega)).trans x1
      have hO2 := HOX.out.far hF2 (fun q hq e => by have h1 := HLT.out _ e; have h2 := (World.ownsRow.lt HOX.out q hq).1; omega)
      have HFIN : ∀ x y, Hid (ProgR ((w2.setCell ⟨w.heap.size, 0, none⟩ x).setCell ⟨w.heap.size, 1, none⟩ y) (.pointer (some ⟨g, 0, none⟩)) F size (L'.drop n) lost ∧ Far F w ((w2.setCell ⟨w.heap.size, 0, none⟩ x).setCell ⟨w.heap.size, 1, none⟩ y) ∧ Own wr.heap.size 5 .u8 ((w2.setCell ⟨w.heap.size, 0, none⟩ x).setCell ⟨w.heap.size, 1, none⟩ y) (.slice A m c) ns) := fun x y =>
        ⟨ring_calls.far _ _ _ _ (fun q => q = w.heap.size) _ _ _ hR2 (far_at x y) (fun q hq e => by have := HLT.out q hq; omega), (hFX.out.trans hF2).beyond (far_at x y) (fun q hq => .inr (by omega)), hO2.far (far_at x y) (fun q hq e => by have := (World.ownsRow.lt hO2 q hq).1; omega)⟩
      have HO2 := Lib.hid hO2
      clear hR2 hF2 hF2' HNX hFX hDr hO2 HOX x0 x1
      go_wp2_with fail
      refine bodyPost_ret (by simp [results, Try.results11, go_sem, n2, n3]; try rfl) rfl ?_
      exact ⟨A, m, c, by rw [HNX2.out]; rfl, by rw [HNX2.out]; exact own_base (HFIN _ _).out.2.2 (by omega), by rw [HNX2.out]; exact hk, by rw [HNX2.out]; exact (HFIN _ _).out.1, (HFIN _ _).out.2.1⟩
    · have hpos := stand_some (size := size) (L := L') (by rw [HST.out]; omega)
      have hUU := Lib.hid (hU.out.more HST.out)
      rw [show prS 2 = 1 from rfl]
      have hDr := HD X L' 1 hRX.out (by omega)
      simp only [Int.toNat_one, Nat.min_eq_left (show 1 ≤ L'.length from hpos)] at hDr
      clear hR hN hF HSX HD hU hRX HST
      go_wp2_with (go_at_call 22; refine hDr.out.mono ?_; rintro e w2 ⟨rfl, hR2, hF2⟩)
      have hN2 := Lib.hid (HNX.out.far hF2 (fun e => by have := HLT.out _ e; omega))
      have hF3 := Lib.hid (hFX.out.trans hF2)
      have hR3 := Lib.hid hR2
      clear hR2 hF2 HNX hFX hDr x0 x1
      go_roundw
      case rel => exact ⟨d + 1, L'.drop 1, by simp, hUU, by omega, hR3, hN2, hF3⟩
      case measure => simp [intOf]; omega
theorem prog_Next (w : World) (v : Value) (F : Nat → Prop) (size : Nat) (L : List Nat) (lost : Nat) (h : ProgR w v F size L lost) :
    Calls Try.prog 11 #[v] w (NextTells ProgR v F size L lost w) := by
  refine (prog_NextO w v F size L lost h).mono ?_
  rintro e w' ⟨A, m, c, rfl, hO, hk, hR, hF⟩
  exact ⟨F, _, rfl, hO.row, hk, fun hn b hb => ⟨(World.ownsRow.lt hO b hb).1, fun e => by have h1 := ring_calls.lt w v F size L lost b h e; have h2 := (World.ownsRow.lt hO b hb).1; omega⟩, hR, fun b hb => .inl hb, hF⟩

set_option maxRecDepth 100000 in
set_option maxHeartbeats 1000000 in
theorem prog_noNext (w : World) : Calls Try.prog 11 #[.pointer none] w fun e w' => (∃ k A n c, e = .returned (.tuple #[.agg #[.int .u8 k, .slice A n c], .bool false, .int .i64 0])) ∧ Grew w w' := by
  have HL := fun wr => Lib.hid (look_look looked_none quiet_none wr trivial)
  unfold LookT at HL
  rw [show prS (standOf 0 []).1 = 0 from rfl] at HL
  go_enter Try.func11, Try.ntmps11
  go_upto_region 1 with fail
  obtain ⟨W, hW, gW, NW, hWs⟩ := newF w 34
  rw [hW]
  clear hW hWs
  go_wp2_with fail
  go_loopw [5] (fun s wr => s = .int .i64 0 ∧ Hid (NewF wr w.heap.size) ∧ Hid (Grew w wr)) (fun s _ => 0)
  case atStart => exact ⟨rfl, NW, gW⟩
  case round =>
    clear NW
    obtain ⟨rfl, hN, hG⟩ := hrel
    have H1 := HL wr
    clear HL
    go_upto_region 3 with (go_at_call 24; refine H1.out.mono ?_; rintro e w1 ⟨k, A, m, c, n, rfl, hk, hn, hs, hR1, hG1⟩)
    obtain ⟨X, hX, gX, x0, hXl, x1, hXs⟩ := newB w1 (.int .u8 (k : Nat)) (.slice A m c) 34
    rw [hX]
    have GX := Lib.hid (hG.out.trans (hG1.trans gX))
    obtain ⟨n1, n2, n3, n4, n5⟩ := hN.out.grew (hG1.trans gX)
    clear hX gX hXs hR1 hs H1 hG1 hN hG x0 x1 hXl
    go_wp2_with fail
    refine bodyPost_ret (by simp [results, Try.results11, go_sem, n2, n3]; try rfl) rfl ?_
    exact ⟨⟨_, _, _, _, rfl⟩, (GX.out.setCell (Nat.le_refl _) _).setCell (Nat.le_refl _) _⟩
end Go.Proofs.Ytkoklmecijejkaa
