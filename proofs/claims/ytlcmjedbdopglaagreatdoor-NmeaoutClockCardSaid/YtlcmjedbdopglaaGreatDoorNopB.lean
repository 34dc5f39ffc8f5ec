/-
  The program's sentences: bytes of a body, commands, times.
-/
import Derived.Test.YtlcmjedbdopglaaGreatDoorNopA
import Derived.Test.YtlcmjedbdopglaaGreatDoorFrpC
import Derived.Deep.RegionHeld3
namespace Go.Proofs.YtlcmjedbdopglaaGreatDoor
open Go.RowKit
set_option linter.unusedVariables false

theorem sent_some {s : ByteArray} (h : s.size ≠ 0) : sentErr s = frameErr 1 (nat s) ∧ sentRow s = frameBytes 1 (nat s) := by
  unfold sentErr sentRow
  rw [if_neg h, if_neg h]
  exact ⟨rfl, rfl⟩
theorem size_zero {s : ByteArray} (h : s.size = 0) : s = ⟨#[]⟩ := nat_ext (by rw [nat_nil]; exact List.eq_nil_of_length_eq_zero (by rw [nat_length]; exact h))

set_option maxRecDepth 100000 in
theorem prog_Sentence (s : ByteArray) (w : World) (hs : s.size ≤ 1000) : Calls Tryz.prog 10 #[.string s] w (SaidT (sentErr s) (sentRow s) w) := by
  by_cases h0 : s.size = 0
  · obtain rfl := size_zero h0
    go_enter Tryz.func10, Tryz.ntmps10
    go_wp2_with fail
    go_ret2
    exact saidT_none _ (Grew.refl w)
  · obtain ⟨e1, e2⟩ := sent_some h0
    rw [e1, e2]
    have HB := Lib.hid (prog_Bytes 1 (.slice (some ⟨w.heap.size, 0, none⟩) s.size (grownCap w s.size 0 5)) (nat s) (Lib.bytesWorld w 5 s) (bytes_row w _ s) (nat_bytes s) (by rw [nat_length]; omega) (by decide))
    rw [show ((1 : Nat) : Int) = 1 from rfl] at HB
    have he := no_empty h0
    have hc := Lib.run_convert_string_bytes (P := Tryz.prog) w 9 22 5 s Tryz.underlying9 Tryz.underlying22 Tryz.underlying5
    have hb := Lib.hid (bytes_grew w 5 s)
    go_enter Tryz.func10, Tryz.ntmps10
    go_wp2_with fail
    refine HB.out.mono ?_
    rintro e w1 ⟨v, rfl, hO, g1⟩
    replace hO := Lib.hid hO
    go_wp2_with fail
    go_ret2
    exact ⟨v, rfl, hO.out.row, hb.out.trans g1⟩

/-- What a command tells: the error, or its body's sentence. -/
def CmdT (er : Nat) (s : ByteArray) (w : World) : Ending → World → Prop := SaidT (if er = 0 then sentErr s else er) (if er = 0 then sentRow s else []) w
theorem cmdT_no {er : Nat} {s : ByteArray} {w w' : World} (h : er ≠ 0) (g : Grew w w') : CmdT er s w (.returned (.tuple #[.slice none 0 0, .int .i64 (er : Nat)])) w' := by
  unfold CmdT
  rw [if_neg h, if_neg h]
  exact saidT_none _ g
theorem cmdT_ok {s : ByteArray} {w : World} : CmdT 0 s w = SaidT (sentErr s) (sentRow s) w := rfl
theorem cmd_none {k : Nat} {every : Int} (h : k = 0 ∨ 7 < k) : cmdErr k every = 7 := by unfold cmdErr; rw [if_pos h]
theorem cmd_arg {k : Nat} {every : Int} (hk : 1 ≤ k ∧ k ≤ 7) (h : every < 0 ∨ 10 < every) : cmdErr k every = 2 := by unfold cmdErr; rw [if_neg (by omega), if_pos h]
theorem cmd_ok {k : Nat} {every : Int} (hk : 1 ≤ k ∧ k ≤ 7) (h : 0 ≤ every ∧ every ≤ 10) : cmdErr k every = 0 := by unfold cmdErr; rw [if_neg (by omega), if_neg (by omega)]
/-- A row of one number that a call lays. -/
theorem row_one (W : World) (n : Nat) (E : TypeId) (fr : Nat × Nat) (b : Nat) (hb : b = W.heap.size) : Row .i64 (W.alloc (.cells #[.int .i64 (n : Nat)] E fr)) (.slice (some ⟨b, 0, none⟩) 1 1) [n] := by
  subst hb
  have := row_lit_i64 W E fr [n]
  simpa using this

set_option maxHeartbeats 1000000 in
theorem prog_Rate (k : Nat) (every : Int) (w : World) (hk : k < 256) (hv : -9223372036854775808 ≤ every ∧ every ≤ 9223372036854775807) (ht : Tabs w) :
    Calls Tryz.prog 13 #[.int .u8 (k : Nat), .int .i64 every] w (CmdT (cmdErr k every) (rateB (kindText k) every.toNat) w) := by
  by_cases h7 : k = 0 ∨ 7 < k
  · rw [cmd_none h7]
    have HA := fun w ht => Lib.hid (asked_none k every w hk h7 hv ht)
    go_enter Tryz.func13, Tryz.ntmps13
    go_wp2_with (go_at_call 29; refine (HA _ ht).out.mono ?_; rintro e w1 ⟨rfl, g1⟩)
    go_ret2
    exact cmdT_no (by decide) (g1.alloc _)
  have hk : 1 ≤ k ∧ k ≤ 7 := by omega
  by_cases he : every < 0 ∨ 10 < every
  · rw [cmd_arg hk he]
    have HA := fun w ht => Lib.hid (asked_arg k every w hk he hv ht)
    go_enter Tryz.func13, Tryz.ntmps13
    go_wp2_with (go_at_call 29; refine (HA _ ht).out.mono ?_; rintro e w1 ⟨rfl, g1⟩)
    go_ret2
    exact cmdT_no (by decide) (g1.alloc _)
  have he : 0 ≤ every ∧ every ≤ 10 := by omega
  rw [cmd_ok hk he, cmdT_ok]
  obtain ⟨n, rfl⟩ : ∃ n : Nat, every = n := ⟨every.toNat, by omega⟩
  rw [Int.toNat_natCast]
  have HA := fun w ht => Lib.hid (asked_ok k (n : Nat) w hk he ht)
  have hL := kindText_size k
  have HS := fun w => Lib.hid (prog_Sentence (rateB (kindText k) n) w (by rw [rateB_size]; have := every_size n; omega))
  have HD := fun V v (hr : Row .i64 V v [n]) ht => Lib.hid (nmo_digits 1 v [n] V hr (by decide) (by simp) (wd_one n (by omega)) ht)
  simp only [show [n].length = 1 from rfl, padTo_one, every_pad n (by omega)] at HD
  have hE := every_size n
  go_enter Tryz.func13, Tryz.ntmps13
  go_upto_region 2 with (go_at_call 29; refine (HA _ ht).out.mono ?_; rintro e w1 ⟨rfl, g1⟩)
  obtain ⟨W, hW, g2, hl, ⟨c0, c1⟩, f0, f1⟩ := two_new w1 (.string (kindText k)) (.int .i64 (kindNum k : Nat)) 75
  rw [hW]
  clear hW
  have G := g1.trans g2
  have HT := Lib.hid (ht.grew G)
  have hB := Lib.hid (show rateB (kindText k) n = (⟨#[80, 85, 66, 88, 44, 52, 48, 44]⟩ : ByteArray) ++ kindText k ++ ⟨#[44, 48, 44]⟩ ++ everyB n ++ ⟨#[44, 48, 44, 48, 44, 48, 44, 48]⟩ from rfl)
  have z1 : (⟨#[80, 85, 66, 88, 44, 52, 48, 44]⟩ : ByteArray).size = 8 := rfl
  have z2 : (⟨#[44, 48, 44]⟩ : ByteArray).size = 3 := rfl
  have z3 : (⟨#[44, 48, 44, 48, 44, 48, 44, 48]⟩ : ByteArray).size = 8 := rfl
  rw [hB.out] at HS
  generalize everyB n = E at *
  generalize kindText k = L at *
  have k1 : ¬ 9223372036854775807 < (⟨#[80, 85, 66, 88, 44, 52, 48, 44]⟩ : ByteArray).size + L.size := by omega
  have k2 : ¬ 9223372036854775807 < ((⟨#[80, 85, 66, 88, 44, 52, 48, 44]⟩ : ByteArray) ++ L).size + (⟨#[44, 48, 44]⟩ : ByteArray).size := by simp only [ByteArray.size_append]; omega
  have k3 : ¬ 9223372036854775807 < ((⟨#[80, 85, 66, 88, 44, 52, 48, 44]⟩ : ByteArray) ++ L ++ ⟨#[44, 48, 44]⟩).size + E.size := by simp only [ByteArray.size_append]; omega
  have k4 : ¬ 9223372036854775807 < ((⟨#[80, 85, 66, 88, 44, 52, 48, 44]⟩ : ByteArray) ++ L ++ ⟨#[44, 48, 44]⟩ ++ E).size + (⟨#[44, 48, 44, 48, 44, 48, 44, 48]⟩ : ByteArray).size := by simp only [ByteArray.size_append]; omega
  have j1 : ¬ 9223372036854775807 < 8 + L.size := by omega
  have j2 : ¬ 9223372036854775807 < 8 + L.size + 3 := by omega
  have j3 : ¬ 9223372036854775807 < 8 + L.size + 3 + E.size := by omega
  have j4 : ¬ 9223372036854775807 < 8 + L.size + 3 + E.size + 8 := by omega
  have KS : ∀ w', Grew W w' → w'.cell? ⟨w1.heap.size, 0, none⟩ = some (.string L) := fun w' g => (g.cell hl).trans c0
  have GW := Grew.refl W
  clear z1 z2 z3
  go_upto_region 4 with fail
  go_region_held3 (fun w' => w'.cell? ⟨w1.heap.size, 0, none⟩ = some (.string L)) (first | exact KS _ GW | exact KS _ (GW.alloc _).drew | exact KS _ (GW.drew) | exact KS _ (GW.alloc _)) (first | (go_at_call 11; refine (HD _ _ (by first | exact (row_one _ _ _ _ _ rfl).grew (Grew.refl _).drew | exact row_one _ _ _ _ _ rfl) (HT.out.grew (by first | exact (GW.alloc _).drew | exact GW.alloc _))).out.mono ?_; rintro e w3 ⟨rfl, g3⟩; replace GW := (GW.alloc _).drew.trans g3; clear g3) | (go_at_call 10; refine (HS _).out.mono ?_; rintro e w4 ⟨v, rfl, hrow, g4⟩; replace GW := GW.trans g4))
  go_wp2_with fail
  go_ret2
  rw [hB.out]
  exact ⟨v, rfl, hrow, G.trans GW⟩

set_option maxHeartbeats 1000000 in
theorem prog_Ask (k : Nat) (every : Int) (w : World) (hk : k < 256) (hv : -9223372036854775808 ≤ every ∧ every ≤ 9223372036854775807) (ht : Tabs w) :
    Calls Tryz.prog 14 #[.int .u8 (k : Nat), .int .i64 every] w (CmdT (cmdErr k every) (askB (kindNum k) every.toNat) w) := by
  by_cases h7 : k = 0 ∨ 7 < k
  · rw [cmd_none h7]
    have HA := fun w ht => Lib.hid (asked_none k every w hk h7 hv ht)
    go_enter Tryz.func14, Tryz.ntmps14
    go_wp2_with (go_at_call 29; refine (HA _ ht).out.mono ?_; rintro e w1 ⟨rfl, g1⟩)
    go_ret2
    exact cmdT_no (by decide) (g1.alloc _)
  have hk : 1 ≤ k ∧ k ≤ 7 := by omega
  by_cases he : every < 0 ∨ 10 < every
  · rw [cmd_arg hk he]
    have HA := fun w ht => Lib.hid (asked_arg k every w hk he hv ht)
    go_enter Tryz.func14, Tryz.ntmps14
    go_wp2_with (go_at_call 29; refine (HA _ ht).out.mono ?_; rintro e w1 ⟨rfl, g1⟩)
    go_ret2
    exact cmdT_no (by decide) (g1.alloc _)
  have he : 0 ≤ every ∧ every ≤ 10 := by omega
  rw [cmd_ok hk he, cmdT_ok]
  obtain ⟨n, rfl⟩ : ∃ n : Nat, every = n := ⟨every.toNat, by omega⟩
  rw [Int.toNat_natCast]
  have HA := fun w ht => Lib.hid (asked_ok k (n : Nat) w hk he ht)
  have hm := kindNum_lt k
  generalize kindText k = L at *
  generalize kindNum k = m at *
  have HS := fun w => Lib.hid (prog_Sentence (askB m n) w (by rw [askB_size]; decide))
  have HD := fun (x : Nat) (hx : x < 100) V v (hr : Row .i64 V v [x]) ht => Lib.hid (nmo_digits 2 v [x] V hr (by decide) (by simp) (wd_one x (by omega)) ht)
  simp only [show ∀ x : Nat, [x].length = 1 from fun _ => rfl, padTo_one] at HD
  have HDm := HD m (by omega)
  have HDn := HD n (by omega)
  rw [padB_eq 2 m (by decide) (by omega)] at HDm
  rw [padB_eq 2 n (by decide) (by omega)] at HDn
  clear HD
  go_enter Tryz.func14, Tryz.ntmps14
  go_upto_region 2 with (go_at_call 29; refine (HA _ ht).out.mono ?_; rintro e w1 ⟨rfl, g1⟩)
  obtain ⟨W, hW, g2, hl, ⟨c0, c1⟩, f0, f1⟩ := two_new w1 (.string L) (.int .i64 (m : Nat)) 75
  rw [hW]
  clear hW
  have G := g1.trans g2
  have HT := Lib.hid (ht.grew G)
  have hB := Lib.hid (show askB m n = (⟨#[80, 83, 82, 70, 49, 48, 51, 44]⟩ : ByteArray) ++ digB 2 m ++ ⟨#[44, 48, 44]⟩ ++ digB 2 n ++ ⟨#[44, 49]⟩ from rfl)
  have z1 := digB_size 2 m
  have z2 := digB_size 2 n
  rw [hB.out] at HS
  generalize digB 2 m = E at *
  generalize digB 2 n = D at *
  have j1 : ¬ 9223372036854775807 < 8 + E.size := by omega
  have j2 : ¬ 9223372036854775807 < 8 + E.size + 3 := by omega
  have j3 : ¬ 9223372036854775807 < 8 + E.size + 3 + D.size := by omega
  have j4 : ¬ 9223372036854775807 < 8 + E.size + 3 + D.size + 2 := by omega
  have GW := Grew.refl W
  clear z1 z2
  go_wp2_with fail
  refine (HDm _ _ (by first | exact (row_one _ _ _ _ _ rfl).grew (Grew.refl _).drew | exact row_one _ _ _ _ _ rfl) (HT.out.grew (by first | exact (GW.alloc _).drew | exact GW.alloc _))).out.mono ?_
  rintro e w3 ⟨rfl, g3⟩
  replace GW := (GW.alloc _).trans g3
  clear g3
  go_wp2_with fail
  refine (HDn _ _ (by first | exact (row_one _ _ _ _ _ rfl).grew (Grew.refl _).drew | exact row_one _ _ _ _ _ rfl) (HT.out.grew (by first | exact (GW.alloc _).drew | exact GW.alloc _))).out.mono ?_
  rintro e w4 ⟨rfl, g4⟩
  replace GW := (GW.alloc _).trans g4
  clear g4
  go_wp2_with fail
  refine (HS _).out.mono ?_
  rintro e w5 ⟨v, rfl, hrow, g5⟩
  replace GW := GW.trans g5
  go_wp2_with fail
  go_ret2
  rw [hB.out]
  exact ⟨v, rfl, hrow, G.trans GW⟩
end Go.Proofs.YtlcmjedbdopglaaGreatDoor
