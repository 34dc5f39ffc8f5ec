/-
  Contracts of the document's stamps: the second that a stamp means.
-/
import Derived.Test.YtodpoecefbgcpaaRefN
namespace Go.Proofs.Ytodpoecefbgcpaa
open Go.RowKit
set_option linter.unusedVariables false

theorem Open.grew {w w' : World} {b : Nat} {n : Int} {L : Nat} (h : Open w b n L) (g : Grew w w') : Open w' b n L := by
  obtain ⟨⟨bo, A, m, c, h0, h1, hN⟩, f0, f1⟩ := h
  have hb : b < w.heap.size := World.block_lt_of_cell? w _ h0
  exact ⟨⟨bo, A, m, c, (g.cell hb).trans h0, (g.cell hb).trans h1, hN.grew g⟩, (g.frozen hb).trans f0, (g.frozen hb).trans f1⟩
theorem Open.put {w : World} {b : Nat} {bo bo' : Bool} {A A' : Option Addr} {m c m' c' : Nat} {n : Int} {L : Nat} (h0 : w.cell? ⟨b, 0, none⟩ = some (.bool bo')) (h1 : w.cell? ⟨b, 1, none⟩ = some (.slice A' m' c')) (f0 : w.frozen? ⟨b, 0, none⟩ = false) (f1 : w.frozen? ⟨b, 1, none⟩ = false)
    (h : NumT w (.agg #[.bool bo, .slice A m c]) n L) : Open ((w.setCell ⟨b, 0, none⟩ (.bool bo)).setCell ⟨b, 1, none⟩ (.slice A m c)) b n L := by
  have o : (⟨b, 0, none⟩ : Addr) ≠ ⟨b, 1, none⟩ := by simp
  have h1' : (w.setCell ⟨b, 0, none⟩ (.bool bo)).cell? ⟨b, 1, none⟩ = some (.slice A' m' c') := by rw [World.cell?_setCell_other _ _ _ _ o]; exact h1
  refine ⟨⟨bo, A, m, c, ?_, World.cell?_setCell_same _ _ _ h1', (h.set h0 (fun _ _ h => by cases h)).set h1' (fun _ _ h => by cases h)⟩, by simpa [go_sem] using f0, by simpa [go_sem] using f1⟩
  rw [World.cell?_setCell_other _ _ _ _ o.symm]
  exact World.cell?_setCell_same _ _ _ h0
theorem nought (w : World) (L : Nat) : NumT w (.agg #[.bool false, .slice none 0 0]) 0 L := ⟨_, [], rfl, Row.nil _ _, Words.nil, rfl, by simp, fun h => absurd rfl h⟩
theorem near_ns (f : Int) (hf : 0 ≤ f ∧ f ≤ 4294967295) : -(-(f * 1000000000) / 4294967296) = (f * 1000000000 + 4294967295) / 4294967296 := by omega

set_option maxRecDepth 100000 in
set_option maxHeartbeats 4000000 in
theorem ref02_Split (low f pv : Int) (w : World) (hl : 0 ≤ low ∧ low ≤ 4294967295) (hf : 0 ≤ f ∧ f ≤ 4294967295) (hp : -9223372036854775808 ≤ pv ∧ pv ≤ 9223372036854775807) :
    Calls Try.prog 15 #[.int .u64 (low * 4294967296 + f), .int .i64 pv] w fun e w' => e = .returned (.tuple #[.int .i64 (nearOf low pv), .int .i64 (nsOf f)]) ∧ Grew w w' := by
  obtain ⟨hend, hn0, hn1⟩ := near_last low pv hl hp
  obtain ⟨NR, HNR⟩ : ∃ n, Hid (nearOf low pv = n) := ⟨_, Lib.hid rfl⟩
  rw [HNR.out] at hend hn0 hn1 ⊢
  have HEND := Lib.hid hend
  clear hend
  obtain ⟨s, hs⟩ : ∃ s, low * 4294967296 + f = s := ⟨_, rfl⟩
  have e1 : s % 4294967296 = f := by omega
  have e2 : s / 4294967296 = low := by omega
  have b : 0 ≤ s ∧ s ≤ 18446744073709551615 := by omega
  rw [hs]
  clear hs
  obtain ⟨N0, HN0⟩ : ∃ n, Hid (-(-(f * 1000000000) / 4294967296) = n) := ⟨_, Lib.hid rfl⟩
  have hN0 : 0 ≤ N0 ∧ N0 ≤ 1000000000 := by have := HN0.out; rw [near_ns f hf] at this; omega
  have BN : Hid (held N0 = N0) := held_in _ (by omega) (by omega)
  obtain ⟨NS, HNS⟩ : ∃ n, Hid (nsOf f = n) := ⟨_, Lib.hid rfl⟩
  have HNS2 : Hid (min N0 999999999 = NS) := by show _ = _; rw [← HNS.out, ← HN0.out, near_ns f hf]; rfl
  rw [HNS.out]
  go_enter Try.func15, Try.ntmps15
  go_wp2_with fail
  clear e1 e2 b
  refine (ref_Of f _ (by omega)).mono ?_
  rintro e w1 ⟨v1, rfl, hN1, hg1⟩
  go_wp2_with fail
  refine (ref_Of 1000000000 _ (by omega)).mono ?_
  rintro e w2 ⟨v2, rfl, hN2, hg2⟩
  go_wp2_with fail
  refine (ref_Mul _ _ f 1000000000 2 2 _ (hN1.grew hg2).num hN2.num (by omega) (by omega)).mono ?_
  rintro e w3 ⟨v3, rfl, hN3, hg3⟩
  go_wp2_with fail
  refine (ref_Two 32 _ (by omega) (by omega)).mono ?_
  rw [show (2 : Int) ^ (32 : Int).toNat = 4294967296 from rfl]
  rintro e w4 ⟨v4, rfl, hN4, hg4⟩
  go_wp2_with fail
  refine (ref_Up _ _ (f * 1000000000) 4294967296 (2 + 64 * 2) 33 _ (hN3.grew hg4).num hN4 (by omega) (by omega) (by omega)).mono ?_
  rw [HN0.out]
  rintro e w5 ⟨v5, rfl, hN5, hg5⟩
  go_wp2_with fail
  refine (ref_small _ N0 _ _ hN5 (by omega)).mono ?_
  rw [BN.out]
  rintro e w6 ⟨rfl, hg6⟩
  have G := ((((hg1.trans hg2).trans hg3).trans hg4).trans hg5).trans hg6
  clear hN1 hN2 hN3 hN4 hN5 hg1 hg2 hg3 hg4 hg5 hg6
  go_upto_if 29 with fail
  go_cut [8] (fun s w' => s = .int .i64 NS ∧ Grew w w')
  case first =>
    by_cases h9 : 999999999 < N0
    · have e9 := Lib.hid (show NS = 999999999 by have := HNS2.out; omega)
      go_wp2_with fail
      go_meet
      exact ⟨by rw [e9.out], G⟩
    · have e9 := Lib.hid (show NS = N0 by have := HNS2.out; omega)
      go_wp2_with fail
      go_meet
      exact ⟨by rw [e9.out], G⟩
  case rest =>
    obtain ⟨rfl, g0⟩ := hcut
    clear G
    go_wp2_with fail
    refine (ref_mod pv _ hp).mono ?_
    obtain ⟨E0, HE⟩ : ∃ n, Hid (pv / 4294967296 = n) := ⟨_, Lib.hid rfl⟩
    have hE : -2147483648 ≤ E0 ∧ E0 ≤ 2147483647 := by have := HE.out; omega
    rw [HE.out]
    generalize pv % 4294967296 = pm
    rintro e w1 ⟨rfl, g1⟩
    replace g0 := g0.trans g1
    clear g1
    go_wp2_with fail
    have hO := open1 (nought w1 (max (2 + 64 * 33) 2 + 1)) 40
    have g1 := g0.alloc (.cells #[.bool false, .slice none 0 0] 40)
    have hPw : w.heap.size ≤ w1.heap.size := g0.size
    generalize w1.alloc (.cells #[.bool false, .slice none 0 0] 40) = W at hO g1 ⊢
    generalize w1.heap.size = P at hO hPw ⊢
    clear g0
    go_loopw [12, 13] (fun fd k wr => ∃ (j : Nat) (K B : Int) (F : Bool), j ≤ 3 ∧ k = .int .i64 K ∧ Hid (K = E0 - 1 + j) ∧ Hid (nearTill low pv j = (B, F)) ∧ fd = .bool F ∧ Open wr P B (max (2 + 64 * 33) 2 + 1) ∧ Grew w wr) (fun _ k _ => (E0 + 2 - intOf k).toNat)
    case atStart => exact ⟨0, E0 - 1, 0, false, by omega, rfl, Lib.hid (by simp), Lib.hid rfl, rfl, hO, g1⟩
    case round =>
      clear hO g1
      obtain ⟨j, K, B, F, hj, rfl, HK, HT, rfl, hO, g0⟩ := hrel
      have hK0 : E0 - 1 ≤ K ∧ K ≤ E0 + 2 := by have := HK.out; omega
      by_cases hK : K ≤ E0 + 1
      · have hj2 : j + 1 ≤ 3 := by have := HK.out; omega
        clear hj
        go_wp2_with fail
        refine (ref_Of K _ (by omega)).mono ?_
        rintro e w1 ⟨v1, rfl, hN1, hg1⟩
        go_wp2_with fail
        refine (ref_Two 32 _ (by omega) (by omega)).mono ?_
        rw [show (2 : Int) ^ (32 : Int).toNat = 4294967296 from rfl]
        rintro e w2 ⟨v2, rfl, hN2, hg2⟩
        go_wp2_with fail
        refine (ref_Mul _ _ K 4294967296 2 33 _ (hN1.grew hg2).num hN2 (by omega) (by omega)).mono ?_
        rintro e w3 ⟨v3, rfl, hN3, hg3⟩
        go_wp2_with fail
        refine (ref_Of low _ (by omega)).mono ?_
        rintro e w4 ⟨v4, rfl, hN4, hg4⟩
        go_wp2_with fail
        refine (ref_Add _ _ (K * 4294967296) low (2 + 64 * 33) 2 _ (hN3.grew hg4).num hN4.num (by omega) (by omega)).mono ?_
        obtain ⟨X, HX⟩ : ∃ n, Hid (K * 4294967296 + low = n) := ⟨_, Lib.hid rfl⟩
        rw [HX.out]
        rintro e w5 ⟨v5, rfl, hN5, hg5⟩
        have gr := (((hg1.trans hg2).trans hg3).trans hg4).trans hg5
        replace hO := hO.grew gr
        replace g0 := g0.trans gr
        clear hN1 hN2 hN3 hN4 hg1 hg2 hg3 hg4 hg5 gr
        obtain ⟨A5, n5, c5, rfl⟩ := hN5.form
        generalize decide (X < 0) = xb at hN5 ⊢
        go_wp2_with fail
        obtain ⟨W2, hW, g5, x0, x1, hQ⟩ := one_new w5 (.bool xb) (.slice A5 n5 c5) 40
        rw [hW]
        clear hW
        replace hO := hO.grew g5
        replace g0 := g0.trans g5
        replace hN5 := hN5.grew g5
        obtain ⟨⟨bo, A2, n2, c2, b0, b1, hNB⟩, fb0, fb1⟩ := hO
        have hP : P < W2.heap.size := World.block_lt_of_cell? W2 _ b0
        clear g5
        generalize w5.heap.size = Q at x0 x1 hQ ⊢
        have G : Grew W2 W2.drew := (Grew.refl W2).drew
        have HS : Hid (nearTill low pv (j + 1) = nearStep low pv K (B, F)) := by show _ = _; rw [nearTill, HE.out, HT.out, HK.out]
        by_cases hA : X < -9223372036854775808
        · have C1 : Hid (cmpInt X (-9223372036854775808) = -1) := by show _ = _; unfold cmpInt; rw [if_neg (by omega), if_pos hA]
          have HS2 : Hid (nearTill low pv (j + 1) = (B, F)) := by show _ = _; rw [HS.out, nearStep, HX.out, if_pos (.inl hA)]
          clear hA
          go_cut [60] (fun t wx => t = .bool true ∧ Grew W2 wx)
          case first =>
            go_region_with (first
              | (go_at_call 20; refine (ref_Of (-9223372036854775808) _ (by omega)).mono ?_; rintro e w6 ⟨v6, rfl, hN6, hg⟩; replace G := G.trans hg; clear hg; obtain ⟨y0, y1⟩ := two_keep G hQ x0 x1)
              | (go_at_call 27; refine (ref_Cmp (.agg #[.bool xb, .slice A5 n5 c5]) _ X (-9223372036854775808) _ 2 _ (hN5.grew G).num hN6.num (by omega) (by omega)).mono ?_; rw [C1.out]; rintro e w7 ⟨rfl, hg⟩; replace G := G.trans hg; clear hg))
            all_goals go_wp2_with fail
            all_goals go_meet
            all_goals exact ⟨rfl, G⟩
          case rest =>
            obtain ⟨rfl, gc⟩ := hcut
            go_wp2_with fail
            go_roundw
            case rel => exact ⟨j + 1, K + 1, B, F, hj2, rfl, Lib.hid (by have := HK.out; omega), HS2, rfl, Open.grew ⟨⟨bo, A2, n2, c2, b0, b1, hNB⟩, fb0, fb1⟩ gc, g0.trans gc⟩
            case measure => simp [intOf]; omega
        · obtain ⟨k1, C1⟩ : ∃ n, Hid (cmpInt X (-9223372036854775808) = n) := ⟨_, Lib.hid rfl⟩
          have hk1 : 0 ≤ k1 ∧ k1 ≤ 1 := by have := C1.out; unfold cmpInt at this; (repeat' split at this) <;> omega
          have hd1 : decide (k1 < 0) = false := by simp; omega
          by_cases hB : 9223372036854775807 < X
          · have C2 : Hid (cmpInt X 9223372036854775807 = 1) := by show _ = _; unfold cmpInt; rw [if_pos hB]
            have HS2 : Hid (nearTill low pv (j + 1) = (B, F)) := by show _ = _; rw [HS.out, nearStep, HX.out, if_pos (.inr hB)]
            clear hA hB
            go_region_held3 (fun w' => w'.cell? ⟨Q, 0, none⟩ = some (.bool xb) ∧ w'.cell? ⟨Q, 1, none⟩ = some (.slice A5 n5 c5))
              (exact two_keep G hQ x0 x1)
              (first
                | (go_at_call 20; refine (ref_Of _ _ (by omega)).mono ?_; rintro e w6 ⟨v6, rfl, hN6, hg⟩; replace G := G.trans hg; clear hg)
                | (go_at_call 27; refine (ref_Cmp (.agg #[.bool xb, .slice A5 n5 c5]) _ X _ _ 2 _ (hN5.grew G).num hN6.num (by omega) (by omega)).mono ?_; (first | rw [C1.out] | rw [C2.out]); rintro e w7 ⟨rfl, hg⟩; replace G := G.trans hg; clear hg))
            go_wp2_with fail
            go_roundw
            case rel => exact ⟨j + 1, K + 1, B, F, hj2, rfl, Lib.hid (by have := HK.out; omega), HS2, rfl, Open.grew ⟨⟨bo, A2, n2, c2, b0, b1, hNB⟩, fb0, fb1⟩ G, g0.trans G⟩
            case measure => simp [intOf]; omega
          · obtain ⟨k2, C2⟩ : ∃ n, Hid (cmpInt X 9223372036854775807 = n) := ⟨_, Lib.hid rfl⟩
            have hk2 : -1 ≤ k2 ∧ k2 ≤ 0 := by have := C2.out; unfold cmpInt at this; (repeat' split at this) <;> omega
            have hd2 : decide (0 < k2) = false := by simp; omega
            have HS2 : Hid (nearTill low pv (j + 1) = if F = false ∨ (X - pv).natAbs < (B - pv).natAbs then (X, true) else (B, F)) := by show _ = _; rw [HS.out, nearStep, HX.out, if_neg (by omega)]
            clear hA hB
            go_region_held3 (fun w' => w'.cell? ⟨Q, 0, none⟩ = some (.bool xb) ∧ w'.cell? ⟨Q, 1, none⟩ = some (.slice A5 n5 c5))
              (exact two_keep G hQ x0 x1)
              (first
                | (go_at_call 20; refine (ref_Of _ _ (by omega)).mono ?_; rintro e w6 ⟨v6, rfl, hN6, hg⟩; replace G := G.trans hg; clear hg)
                | (go_at_call 27; refine (ref_Cmp (.agg #[.bool xb, .slice A5 n5 c5]) _ X _ _ 2 _ (hN5.grew G).num hN6.num (by omega) (by omega)).mono ?_; (first | rw [C1.out] | rw [C2.out]); rintro e w7 ⟨rfl, hg⟩; replace G := G.trans hg; clear hg))
            clear C1 C2 hk1 hk2 hd1 hd2
            go_wp2_with fail
            obtain ⟨q0, q1, p0, p1⟩ := four_keep G hQ hP x0 x1 b0 b1
            have qf0 := (G.frozen (p := ⟨P, 0, none⟩) hP).trans fb0
            have qf1 := (G.frozen (p := ⟨P, 1, none⟩) hP).trans fb1
            replace hN5 := hN5.grew G
            replace hNB := hNB.grew G
            replace g0 := g0.trans G
            clear x0 x1 b0 b1 fb0 fb1
            replace hQ := Nat.lt_of_lt_of_le hQ G.size
            replace hP := Nat.lt_of_lt_of_le hP G.size
            clear G
            cases F
            · have HS3 : Hid (nearTill low pv (j + 1) = (X, true)) := by show _ = _; rw [HS2.out, if_pos (.inl rfl)]
              go_quiet (fail)
              have G := (Grew.refl w7).drewN nq
              generalize w7.drewN nq = w8 at G ⊢
              obtain ⟨r0, r1, s0, s1⟩ := four_keep G hQ hP q0 q1 p0 p1
              have rf0 := (G.frozen (p := ⟨P, 0, none⟩) hP).trans qf0
              have rf1 := (G.frozen (p := ⟨P, 1, none⟩) hP).trans qf1
              clear q0 q1 p0 p1 qf0 qf1
              go_wp2_with fail
              go_roundw
              case rel => exact ⟨j + 1, K + 1, X, true, hj2, rfl, Lib.hid (by have := HK.out; omega), HS3, rfl, Open.put s0 s1 rf0 rf1 (hN5.grew G), ((g0.trans G).setAt hPw _).setAt hPw _⟩
              case measure => simp [intOf]; omega
            · have G : Grew w7 w7.drew := (Grew.refl w7).drew
              by_cases hlt : (X - pv).natAbs < (B - pv).natAbs
              · have HS3 : Hid (nearTill low pv (j + 1) = (X, true)) := by show _ = _; rw [HS2.out, if_pos (.inr hlt)]
                have C3 : Hid (cmpInt ((X - pv).natAbs : Int) ((B - pv).natAbs : Int) = -1) := by show _ = _; unfold cmpInt; rw [if_neg (by omega), if_pos (by omega)]
                clear hlt
                go_region_held3 (fun w' => w'.cell? ⟨Q, 0, none⟩ = some (.bool xb) ∧ w'.cell? ⟨Q, 1, none⟩ = some (.slice A5 n5 c5) ∧ w'.cell? ⟨P, 0, none⟩ = some (.bool bo) ∧ w'.cell? ⟨P, 1, none⟩ = some (.slice A2 n2 c2))
                  (exact four_keep G hQ hP q0 q1 p0 p1)
                  (first
                    | (go_at_call 30; (with_reducible refine (ref02_far (.agg #[.bool xb, .slice A5 n5 c5]) X pv _ _ (hN5.grew G).num (by omega) hp).mono ?_); rintro e w8 ⟨v8, rfl, hN8, hg⟩; replace G := G.trans hg; clear hg)
                    | (go_at_call 30; (with_reducible refine (ref02_far (.agg #[.bool bo, .slice A2 n2 c2]) B pv _ _ (hNB.grew G).num (by omega) hp).mono ?_); rintro e w9 ⟨v9, rfl, hN9, hg⟩; replace hN8 := hN8.grew hg; replace G := G.trans hg; clear hg)
                    | (go_at_call 27; refine (ref_Cmp _ _ ((X - pv).natAbs : Int) ((B - pv).natAbs : Int) _ _ _ hN8.num hN9.num (by omega) (by omega)).mono ?_; rw [C3.out]; rintro e wa ⟨rfl, hg⟩; replace G := G.trans hg; clear hg))
                obtain ⟨r0, r1, s0, s1⟩ := four_keep G hQ hP q0 q1 p0 p1
                have rf0 := (G.frozen (p := ⟨P, 0, none⟩) hP).trans qf0
                have rf1 := (G.frozen (p := ⟨P, 1, none⟩) hP).trans qf1
                clear q0 q1 p0 p1 qf0 qf1
                go_wp2_with fail
                go_roundw
                case rel => exact ⟨j + 1, K + 1, X, true, hj2, rfl, Lib.hid (by have := HK.out; omega), HS3, rfl, Open.put s0 s1 rf0 rf1 (hN5.grew G), ((g0.trans G).setAt hPw _).setAt hPw _⟩
                case measure => simp [intOf]; omega
              · have HS3 : Hid (nearTill low pv (j + 1) = (B, true)) := by show _ = _; rw [HS2.out, if_neg (by simpa using hlt)]
                obtain ⟨k3, C3⟩ : ∃ n, Hid (cmpInt ((X - pv).natAbs : Int) ((B - pv).natAbs : Int) = n) := ⟨_, Lib.hid rfl⟩
                have hk3 : 0 ≤ k3 ∧ k3 ≤ 1 := by have := C3.out; unfold cmpInt at this; (repeat' split at this) <;> omega
                have hd3 : decide (k3 < 0) = false := by simp; omega
                clear hlt
                go_region_held3 (fun w' => w'.cell? ⟨Q, 0, none⟩ = some (.bool xb) ∧ w'.cell? ⟨Q, 1, none⟩ = some (.slice A5 n5 c5) ∧ w'.cell? ⟨P, 0, none⟩ = some (.bool bo) ∧ w'.cell? ⟨P, 1, none⟩ = some (.slice A2 n2 c2))
                  (exact four_keep G hQ hP q0 q1 p0 p1)
                  (first
                    | (go_at_call 30; (with_reducible refine (ref02_far (.agg #[.bool xb, .slice A5 n5 c5]) X pv _ _ (hN5.grew G).num (by omega) hp).mono ?_); rintro e w8 ⟨v8, rfl, hN8, hg⟩; replace G := G.trans hg; clear hg)
                    | (go_at_call 30; (with_reducible refine (ref02_far (.agg #[.bool bo, .slice A2 n2 c2]) B pv _ _ (hNB.grew G).num (by omega) hp).mono ?_); rintro e w9 ⟨v9, rfl, hN9, hg⟩; replace hN8 := hN8.grew hg; replace G := G.trans hg; clear hg)
                    | (go_at_call 27; refine (ref_Cmp _ _ ((X - pv).natAbs : Int) ((B - pv).natAbs : Int) _ _ _ hN8.num hN9.num (by omega) (by omega)).mono ?_; rw [C3.out]; rintro e wa ⟨rfl, hg⟩; replace G := G.trans hg; clear hg))
                go_wp2_with fail
                go_roundw
                case rel => exact ⟨j + 1, K + 1, B, true, hj2, rfl, Lib.hid (by have := HK.out; omega), HS3, rfl, Open.grew ⟨⟨bo, A2, n2, c2, p0, p1, hNB⟩, qf0, qf1⟩ G, g0.trans G⟩
                case measure => simp [intOf]; omega
      · have e3 : j = 3 := by have := HK.out; omega
        have HB : Hid (B = NR) := by show _ = _; have h1 := HEND.out; rw [← e3, HT.out] at h1; exact h1
        obtain ⟨⟨bo, A2, n2, c2, b0, b1, hNB⟩, fb0, fb1⟩ := hO
        have BR : Hid (held NR = NR) := held_in _ (by omega) (by omega)
        rw [HB.out] at hNB
        go_wp2_with fail
        refine (ref_small _ NR _ _ hNB (by omega)).mono ?_
        rw [BR.out]
        rintro e w9 ⟨rfl, g9⟩
        go_wp2_with fail
        go_ret2
        exact ⟨rfl, g0.trans g9⟩
end Go.Proofs.Ytodpoecefbgcpaa
