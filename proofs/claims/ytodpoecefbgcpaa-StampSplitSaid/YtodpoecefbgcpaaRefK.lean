/-
  Contracts of the document's stamps: seconds by eras, stamps, the short format.
-/
import Derived.Test.YtodpoecefbgcpaaRefJ
import Derived.Test.YtodpoecefbgcpaaStampB
namespace Go.Proofs.Ytodpoecefbgcpaa
open Go.RowKit
set_option linter.unusedVariables false

theorem ref_small (v : Value) (n : Int) (L : Nat) (w : World) (hN : NumT w v n L) (hL : L ≤ 1000000) :
    Calls Try.prog 22 #[v] w fun e w' => e = .returned (.int .i64 (held n)) ∧ Grew w w' := by
  obtain ⟨A, m, c, rfl⟩ := hN.form
  generalize decide (n < 0) = b at hN ⊢
  go_enter Try.func22, Try.ntmps22
  go_wp2_with (go_at_call 40; refine (ref_Held _ n L _ (hN.grew ((Grew.refl _).alloc _)) hL).mono ?_; rintro e w' ⟨rfl, hg⟩)
  go_ret
  exact ⟨rfl, ((Grew.refl _).alloc _).trans hg⟩

theorem four_grew {W w' : World} {p : Nat} {a b c d : Value} (g : Grew W w') (hq : p + 1 < W.heap.size) (h : W.cell? ⟨p, 0, none⟩ = some a ∧ W.cell? ⟨p, 1, none⟩ = some b ∧ W.cell? ⟨p + 1, 0, none⟩ = some c ∧ W.cell? ⟨p + 1, 1, none⟩ = some d) :
    w'.cell? ⟨p, 0, none⟩ = some a ∧ w'.cell? ⟨p, 1, none⟩ = some b ∧ w'.cell? ⟨p + 1, 0, none⟩ = some c ∧ w'.cell? ⟨p + 1, 1, none⟩ = some d :=
  ⟨(g.cell (by show p < _; omega)).trans h.1, (g.cell (by show p < _; omega)).trans h.2.1, (g.cell (by show p + 1 < _; omega)).trans h.2.2.1, (g.cell (by show p + 1 < _; omega)).trans h.2.2.2⟩

set_option maxHeartbeats 1000000 in
theorem ref_mod (sec : Int) (w : World) (hs : -9223372036854775808 ≤ sec ∧ sec ≤ 9223372036854775807) :
    Calls Try.prog 17 #[.int .i64 sec] w fun e w' => e = .returned (.tuple #[.int .i64 (sec % 4294967296), .int .i64 (sec / 4294967296)]) ∧ Grew w w' := by
  obtain ⟨q, hq⟩ : ∃ q, sec / 4294967296 = q := ⟨_, rfl⟩
  obtain ⟨r, hr⟩ : ∃ r, sec % 4294967296 = r := ⟨_, rfl⟩
  have bq : held q = q := held_in _ (by omega) (by omega)
  have br : held r = r := held_in _ (by omega) (by omega)
  rw [hq, hr]
  have HQ := Lib.hid hq; have HR := Lib.hid hr; have BQ := Lib.hid bq; have BR := Lib.hid br
  clear hq hr bq br
  go_enter Try.func17, Try.ntmps17
  go_wp2_with fail
  refine (ref_Of sec _ hs).mono ?_
  rintro e w1 ⟨v1, rfl, hN1, hg1⟩
  go_wp2_with fail
  refine (ref_Two 32 _ (by omega) (by omega)).mono ?_
  rw [show (2 : Int) ^ (32 : Int).toNat = 4294967296 from rfl]
  rintro e w2 ⟨v2, rfl, hN2, hg2⟩
  go_wp2_with fail
  refine (ref_Down _ _ sec 4294967296 2 33 _ (hN1.grew hg2).num hN2 (by omega) (by omega) (by omega)).mono ?_
  rw [HQ.out, HR.out]
  rintro e w3 ⟨v3, u3, rfl, hN3, hU3, hg3⟩
  obtain ⟨A3, n3, c3, rfl⟩ := hN3.form
  obtain ⟨A4, n4, c4, rfl⟩ := hU3.form
  generalize decide (q < 0) = pb at hN3 ⊢
  generalize decide (r < 0) = qb at hU3 ⊢
  go_wp2_with fail
  obtain ⟨W, hW, g0, x, e1⟩ := two_new w3 (.bool pb) (.slice A3 n3 c3) (.bool qb) (.slice A4 n4 c4) 40
  rw [hW]
  clear hW
  replace hN3 := hN3.grew g0
  replace hU3 := hU3.grew g0
  replace g0 := ((hg1.trans hg2).trans hg3).trans g0
  have G : Grew W W.drew := (Grew.refl W).drew
  clear hN1 hN2 hg1 hg2 hg3
  go_region_held3 (fun w' => w'.cell? ⟨w3.heap.size, 0, none⟩ = some (.bool pb) ∧ w'.cell? ⟨w3.heap.size, 1, none⟩ = some (.slice A3 n3 c3) ∧ w'.cell? ⟨w3.heap.size + 1, 0, none⟩ = some (.bool qb) ∧ w'.cell? ⟨w3.heap.size + 1, 1, none⟩ = some (.slice A4 n4 c4))
    (exact four_grew G e1 x)
    (first
      | (go_at_call 22; (with_reducible refine (ref_small (.agg #[.bool qb, .slice A4 n4 c4]) r _ _ (hU3.grew G) (by omega)).mono ?_); rw [BR.out]; rintro e w' ⟨rfl, hg⟩; replace G := G.trans hg; clear hg)
      | (go_at_call 22; (with_reducible refine (ref_small (.agg #[.bool pb, .slice A3 n3 c3]) q _ _ (hN3.grew G) (by omega)).mono ?_); rw [BQ.out]; rintro e w' ⟨rfl, hg⟩; replace G := G.trans hg; clear hg))
  go_wp2
  go_ret2
  exact ⟨rfl, g0.trans G⟩

theorem ref02_Era (sec : Int) (w : World) (hs : -9223372036854775808 ≤ sec ∧ sec ≤ 9223372036854775807) :
    Calls Try.prog 8 #[.int .i64 sec] w fun e w' => e = .returned (.int .i64 (sec / 4294967296)) ∧ Grew w w' := by
  go_enter Try.func8, Try.ntmps8
  go_wp2_with (go_at_call 17; refine (ref_mod _ _ hs).mono ?_; rintro e w' ⟨rfl, hg⟩)
  go_ret
  exact ⟨rfl, hg⟩

theorem ref02_Of_bad (sec ns : Int) (w : World) (hs : -9223372036854775808 ≤ sec ∧ sec ≤ 9223372036854775807) (hn : -9223372036854775808 ≤ ns ∧ ns ≤ 9223372036854775807) (hb : ns < 0 ∨ 999999999 < ns) :
    Calls Try.prog 6 #[.int .i64 sec, .int .i64 ns] w fun e w' => e = .returned (.tuple #[.int .u64 0, .int .i64 2]) ∧ Grew w w' := by
  rcases hb with hb | hb
  all_goals
    go_enter Try.func6, Try.ntmps6
    go_wp2
    go_ret2
    exact ⟨rfl, Grew.refl _⟩

set_option maxHeartbeats 1000000 in
theorem ref02_Of (sec ns : Int) (w : World) (hs : -9223372036854775808 ≤ sec ∧ sec ≤ 9223372036854775807) (hn : 0 ≤ ns ∧ ns ≤ 999999999) :
    Calls Try.prog 6 #[.int .i64 sec, .int .i64 ns] w fun e w' => e = .returned (.tuple #[.int .u64 (stampOf sec ns), .int .i64 0]) ∧ Grew w w' := by
  have hd := down_ns ns hn.1 hn.2
  obtain ⟨F, hF⟩ : ∃ F, ns * 4294967296 / 1000000000 = F := ⟨_, rfl⟩
  obtain ⟨R, hR⟩ : ∃ R, ns * 4294967296 % 1000000000 = R := ⟨_, rfl⟩
  have HS : Hid (stampOf sec ns = sec % 4294967296 * 4294967296 + F) := by show _ = _; rw [stampOf, hF]
  rw [hF] at hd
  obtain ⟨hd, hF0, hF1⟩ := hd
  have BF : Hid (held F = F) := held_in _ (by omega) (by omega)
  have HF := Lib.hid hF; have HR := Lib.hid hR
  clear hF hR hd
  obtain ⟨lo, hlo⟩ : ∃ r, sec % 4294967296 = r := ⟨_, rfl⟩
  have blo : 0 ≤ lo ∧ lo ≤ 4294967295 := by omega
  rw [hlo] at HS
  have HLO := Lib.hid hlo
  clear hlo
  go_enter Try.func6, Try.ntmps6
  go_wp2_with fail
  refine (ref_mod sec _ hs).mono ?_
  rw [HLO.out]
  rintro e w0 ⟨rfl, hg0⟩
  go_wp2_with fail
  refine (ref_Of ns _ (by omega)).mono ?_
  rintro e w1 ⟨v1, rfl, hN1, hg1⟩
  go_wp2_with fail
  refine (ref_Two 32 _ (by omega) (by omega)).mono ?_
  rw [show (2 : Int) ^ (32 : Int).toNat = 4294967296 from rfl]
  rintro e w2 ⟨v2, rfl, hN2, hg2⟩
  go_wp2_with fail
  refine (ref_Mul _ _ ns 4294967296 2 33 _ (hN1.grew hg2).num hN2 (by omega) (by omega)).mono ?_
  rintro e w3 ⟨v3, rfl, hN3, hg3⟩
  go_wp2_with fail
  refine (ref_Of 1000000000 _ (by omega)).mono ?_
  rintro e w4 ⟨v4, rfl, hN4, hg4⟩
  go_wp2_with fail
  refine (ref_Down _ _ (ns * 4294967296) 1000000000 (2 + 64 * 33) 2 _ (hN3.grew hg4).num hN4.num (by omega) (by omega) (by omega)).mono ?_
  rw [HF.out, HR.out]
  rintro e w5 ⟨v5, u5, rfl, hN5, hU5, hg5⟩
  obtain ⟨A3, n3, c3, rfl⟩ := hN5.form
  obtain ⟨A4, n4, c4, rfl⟩ := hU5.form
  generalize decide (F < 0) = pb at hN5 ⊢
  generalize decide (R < 0) = qb at hU5 ⊢
  go_wp2_with (go_at_call 22; refine (ref_small _ F _ _ (hN5.grew (((Grew.refl _).alloc _).alloc _)) (by omega)).mono ?_; rw [BF.out]; rintro e w6 ⟨rfl, hg6⟩)
  go_ret2
  refine ⟨?_, hg0.trans (hg1.trans (hg2.trans (hg3.trans (hg4.trans (hg5.trans ((((Grew.refl _).alloc _).alloc _).trans hg6))))))⟩
  rw [HS.out]
  rfl

set_option maxHeartbeats 1000000 in
theorem ref02_ShortNs (s : Int) (w : World) (hs : 0 ≤ s ∧ s ≤ 4294967295) :
    Calls Try.prog 12 #[.int .u32 s] w fun e w' => e = .returned (.int .i64 (s * 1000000000 / 65536)) ∧ Grew w w' := by
  obtain ⟨F, hF⟩ : ∃ F, s * 1000000000 / 65536 = F := ⟨_, rfl⟩
  obtain ⟨R, hR⟩ : ∃ R, s * 1000000000 % 65536 = R := ⟨_, rfl⟩
  have BF : Hid (held F = F) := held_in _ (by omega) (by omega)
  rw [hF]
  have HF := Lib.hid hF; have HR := Lib.hid hR
  clear hF hR
  go_enter Try.func12, Try.ntmps12
  go_wp2_with fail
  refine (ref_Of s _ (by omega)).mono ?_
  rintro e w1 ⟨v1, rfl, hN1, hg1⟩
  go_wp2_with fail
  refine (ref_Of 1000000000 _ (by omega)).mono ?_
  rintro e w2 ⟨v2, rfl, hN2, hg2⟩
  go_wp2_with fail
  refine (ref_Mul _ _ s 1000000000 2 2 _ (hN1.grew hg2).num hN2.num (by omega) (by omega)).mono ?_
  rintro e w3 ⟨v3, rfl, hN3, hg3⟩
  go_wp2_with fail
  refine (ref_Of 65536 _ (by omega)).mono ?_
  rintro e w4 ⟨v4, rfl, hN4, hg4⟩
  go_wp2_with fail
  refine (ref_Down _ _ (s * 1000000000) 65536 (2 + 64 * 2) 2 _ (hN3.grew hg4).num hN4.num (by omega) (by omega) (by omega)).mono ?_
  rw [HF.out, HR.out]
  rintro e w5 ⟨v5, u5, rfl, hN5, hU5, hg5⟩
  obtain ⟨A3, n3, c3, rfl⟩ := hN5.form
  obtain ⟨A4, n4, c4, rfl⟩ := hU5.form
  generalize decide (F < 0) = pb at hN5 ⊢
  generalize decide (R < 0) = qb at hU5 ⊢
  go_wp2_with (go_at_call 22; refine (ref_small _ F _ _ (hN5.grew (((Grew.refl _).alloc _).alloc _)) (by omega)).mono ?_; rw [BF.out]; rintro e w6 ⟨rfl, hg6⟩)
  go_ret
  exact ⟨rfl, hg1.trans (hg2.trans (hg3.trans (hg4.trans (hg5.trans ((((Grew.refl _).alloc _).alloc _).trans hg6)))))⟩
end Go.Proofs.Ytodpoecefbgcpaa
