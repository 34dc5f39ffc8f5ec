/-
  The program's frames: a frame's bytes, of a sentence.
-/
import Derived.Test.YtkoklmecijejkaaFrmL
import Derived.Test.YtkoklmecijejkaaFrmS
import Derived.Test.YtkoklmecijejkaaSumQ
import Derived.Deep.RegionLaw
namespace Go.Proofs.Ytkoklmecijejkaa
open Go.RowKit
set_option linter.unusedVariables false

theorem prog_inNMEA (x : Nat) (w : World) (hx : x < 256) : Calls Try.prog 46 #[.int .u8 x] w fun e w' => e = .returned (.bool (may x)) ∧ w = w' := by
  have hm : may x = (decide ((32 : Int) ≤ x) && decide ((x : Int) ≤ 126) && decide ((x : Int) ≠ 36) && decide ((x : Int) ≠ 42)) := by
    unfold may
    rw [Bool.eq_iff_iff]
    simp
    omega
  rw [hm]
  clear hm
  go_enter Try.func46, Try.ntmps46
  go_wp2
  all_goals go_ret
  all_goals (refine ⟨frm_ret_bool ?_, rfl⟩; rw [Bool.eq_iff_iff]; simp)
  all_goals omega
theorem prog_nmea1 (x : Nat) (w : World) (hx : x < 256) : Calls Try.prog 45 #[.int .u8 x] w fun e w' => e = .returned (.bool (!may x)) ∧ w = w' := by
  have H := Lib.hid (prog_inNMEA x w hx)
  go_enter Try.func45, Try.ntmps45
  go_wp2_with fail
  refine H.out.mono ?_
  rintro e w1 ⟨rfl, rfl⟩
  go_wp2_with fail
  go_ret
  exact ⟨rfl, rfl⟩

/-- Is there a byte that may not stand in a sentence? -/
theorem prog_indexFunc (v : Value) (ns : List Nat) (w : World) (h : Row .u8 w v ns) (hB : Bytes ns) (hl : ns.length ≤ 5000) :
    Calls Try.prog 51 #[v, .func (.func 45) #[] #[]] w fun e w' => (∃ i : Int, e = .returned (.int .i64 i) ∧ decide (0 ≤ i) = !ns.all may ∧ -1 ≤ i ∧ i ≤ 5000) ∧ Grew w w' := by
  have HM := fun x w hx => Lib.hid (prog_nmea1 x w hx)
  obtain ⟨A, c', rfl, hc, hr⟩ := h
  have HR := Lib.hid hr
  clear hr
  go_enter Try.func51, Try.ntmps51
  go_wp2_with fail
  go_loopw [8] (fun i wr => ∃ j : Nat, j ≤ ns.length ∧ i = .int .i64 (j : Nat) ∧ Hid (∀ i, i < j → may (wd ns i) = true) ∧ Grew w wr) (fun i _ => ns.length - (intOf i).toNat)
  case atStart => exact ⟨0, by omega, rfl, fun i hi => by omega, Grew.refl _⟩
  case round =>
    obtain ⟨j, hj, rfl, hM, hg⟩ := hrel
    by_cases hlt : j < ns.length
    · obtain ⟨rb, ro, rfl, hrb, hcell⟩ := HR.out (by omega)
      have y0 := (hg.cell (p := ⟨rb, ro + j, none⟩) hrb).trans (hcell j (by omega))
      have hx256 := hB j
      clear hcell hrb
      have j0 : (0 : Int) ≤ j := by omega
      have j1 : (j : Int) < ns.length := by omega
      by_cases hmay : may (wd ns j) = true
      · have H1 := fun w => (HM (wd ns j) w hx256).out
        rw [hmay] at H1
        have HS : Hid (∀ i, i < j + 1 → may (wd ns i) = true) := fun i hi => by
          rcases Nat.lt_or_ge i j with h | h
          · exact hM.out i h
          · obtain rfl : i = j := by omega
            exact hmay
        have H1' := fun w => Lib.hid (H1 w)
        clear H1 hM hmay
        generalize wd ns j = x at *
        go_wp2_with fail
        refine (H1' _).out.mono ?_
        rintro e w1 ⟨rfl, rfl⟩
        go_wp2_with fail
        go_roundw
        case rel => exact ⟨j + 1, by omega, by simp, HS, hg⟩
        case measure => simp [intOf]; omega
      · have hmf : may (wd ns j) = false := by simpa using hmay
        have H1 := fun w => (HM (wd ns j) w hx256).out
        rw [hmf] at H1
        have H1' := fun w => Lib.hid (H1 w)
        have HA : Hid (ns.all may = false) := by
          show _ = _
          rw [List.all_eq_false]
          refine ⟨ns[j], List.getElem_mem hlt, ?_⟩
          rw [← wd_lt hlt, hmf]; simp
        clear H1 hM hmay hmf
        generalize wd ns j = x at *
        go_wp2_with fail
        refine (H1' _).out.mono ?_
        rintro e w1 ⟨rfl, rfl⟩
        go_wp2_with fail
        go_ret
        exact ⟨⟨j, rfl, by rw [HA.out]; simp, by omega, by omega⟩, hg⟩
    · obtain rfl : j = ns.length := by omega
      have HA : Hid (ns.all may = true) := by
        show _ = _
        rw [List.all_eq_true]
        intro x hx
        obtain ⟨i, hi, rfl⟩ := List.getElem_of_mem hx
        rw [← wd_lt hi]; exact hM.out i hi
      go_wp2_with fail
      go_ret
      exact ⟨⟨-1, rfl, by rw [HA.out]; simp, by omega, by omega⟩, hg⟩
theorem prog_containsFunc (v : Value) (ns : List Nat) (w : World) (h : Row .u8 w v ns) (hB : Bytes ns) (hl : ns.length ≤ 5000) :
    Calls Try.prog 44 #[v, .func (.func 45) #[] #[]] w fun e w' => e = .returned (.bool (!ns.all may)) ∧ Grew w w' := by
  have H := Lib.hid (prog_indexFunc v ns w h hB hl)
  clear h
  generalize ns.all may = b at *
  go_enter Try.func44, Try.ntmps44
  go_wp2_with fail
  refine H.out.mono ?_
  rintro e w1 ⟨⟨i, rfl, hi, hi1, hi2⟩, g1⟩
  go_wp2_with fail
  go_ret
  exact ⟨by rw [← hi]; rfl, g1⟩

theorem and15 (x : Nat) (h : x < 256) : bits BinOp.and IntKind.u8 (x : Int) 15 = (x : Int) % 16 := by
  have := bits_and_u8_n x 15 h (by decide)
  rw [show ((15 : Nat) : Int) = 15 from rfl] at this
  rw [this, show (15 : Nat) = 2 ^ 4 - 1 from rfl, Nat.and_two_pow_sub_one_eq_mod]
  omega
def hexText : ByteArray := { data := #[48, 49, 50, 51, 52, 53, 54, 55, 56, 57, 65, 66, 67, 68, 69, 70] }
theorem hex_at (n : Nat) (h : n < 16) (w : World) : Sem.run Try.prog (Instr.index 9 (.string hexText) (.int .u8 (n : Nat))) w = .ok (.int .u8 (digit n : Nat)) w := by
  have h : n = 0 ∨ n = 1 ∨ n = 2 ∨ n = 3 ∨ n = 4 ∨ n = 5 ∨ n = 6 ∨ n = 7 ∨ n = 8 ∨ n = 9 ∨ n = 10 ∨ n = 11 ∨ n = 12 ∨ n = 13 ∨ n = 14 ∨ n = 15 := by omega
  rcases h with rfl | rfl | rfl | rfl | rfl | rfl | rfl | rfl | rfl | rfl | rfl | rfl | rfl | rfl | rfl | rfl <;> rfl

/-- A frame's bytes, as the program tells them. -/
def BytesRow (k : Nat) (ns : List Nat) (w : World) (e : Ending) (w' : World) : Prop := BytesTells k ns w e w'

set_option maxRecDepth 100000 in
set_option maxHeartbeats 2000000 in
theorem prog_nmeaBytes (v : Value) (ns : List Nat) (w : World) (hR : Row .u8 w v ns) (hB : Bytes ns) (hl : ns.length ≤ 5000) :
    Calls Try.prog 28 #[v] w (BytesTells 1 ns w) := by
  obtain ⟨A, c, rfl, hc⟩ := hR.form
  by_cases h76 : 76 < ns.length
  · have H := fun w' (g : Grew w w') => Lib.hid (bytesTells_no (k := 1) (ns := ns) 3 (by unfold frameErr; simp [h76]) (by omega) g)
    go_enter Try.func28, Try.ntmps28
    go_wp2_with fail
    go_ret2
    exact (H _ (Grew.refl w)).out
  · have HC := Lib.hid (prog_containsFunc _ ns w hR hB hl)
    cases ha : ns.all may
    · rw [ha] at HC
      have H := fun w' (g : Grew w w') => Lib.hid (bytesTells_no (k := 1) (ns := ns) 5 (by unfold frameErr; simp only [if_true, if_neg h76, ha]; simp) (by omega) g)
      clear ha
      go_enter Try.func28, Try.ntmps28
      go_wp2_with fail
      refine HC.out.mono ?_
      rintro e w1 ⟨rfl, g1⟩
      go_wp2_with fail
      go_ret2
      exact (H _ g1).out
    · rw [ha] at HC
      have hE : frameErr 1 ns = 0 := by unfold frameErr; simp only [if_true, if_neg h76, ha]
      have hx : xorOf ns < 256 := xorTo_lt hB ns.length
      have HF := fun v w' (ho : Own w.heap.size 5 .u8 w' v (frameRow 1 ns)) g => Lib.hid (bytesTells_is hE ho g)
      have e1 : frameRow 1 ns = [36] ++ ns ++ [42, digit (xorOf ns / 16), digit (xorOf ns % 16), 13, 10] := by unfold frameRow; simp
      rw [e1] at HF
      have HX := fun w' (g : Grew w w') => Lib.hid (sums_Xor _ ns w' (hR.grew g) hB hl)
      have HR := fun w' (g : Grew w w') => Lib.hid (hR.grew g)
      have I1 := fun w => Lib.hid (hex_at (xorOf ns / 16) (by omega) w)
      have I2 := fun w => Lib.hid (hex_at (xorOf ns % 16) (by omega) w)
      have l1 := digit_lt (xorOf ns / 16) (by omega)
      have l2 := digit_lt (xorOf ns % 16) (by omega)
      have d1 : ((xorOf ns / 16 : Nat) : Int) = (xorOf ns : Int) / 16 := by omega
      have d2 : ((xorOf ns % 16 : Nat) : Int) = (xorOf ns : Int) % 16 := by omega
      rw [d1] at I1
      rw [d2] at I2
      have ha15 : bits BinOp.and IntKind.u8 (xorOf ns : Int) 15 = (xorOf ns : Int) % 16 := and15 _ hx
      generalize digit (xorOf ns / 16) = y1 at *
      generalize digit (xorOf ns % 16) = y2 at *
      generalize xorOf ns = x at *
      clear hE e1 ha hR d1 d2
      go_enter Try.func28, Try.ntmps28
      go_wp2_with fail
      refine HC.out.mono ?_
      rintro e w1 ⟨rfl, g1⟩
      go_wp2_with fail
      refine (HX _ g1).out.mono ?_
      rintro e w2 ⟨rfl, g2⟩
      have G2 := g1.trans g2
      have hO0 := own_lit (B := w.heap.size) w2 5 #[.int .u8 36] [36] 1 G2.size rfl rfl (by simp [maxLen])
      have G1 := G2.alloc (.cells #[.int .u8 36] 5)
      have hR1 := (HR _ G1).out
      have HL := fun w' => Lib.hid (own_lit (B := 0) w' 5 #[.int .u8 42, .int .u8 y1, .int .u8 y2, .int .u8 13, .int .u8 10] [42, y1, y2, 13, 10] 5 (Nat.zero_le _) rfl rfl (by simp [maxLen])).row
      clear HX HR HC g1 g2
      go_wp2_with (refine wpList_joinN _ rfl _ _ 23 rfl w.heap.size 5 .u8 1 Try.underlying23 infoU8 (.slice (some ⟨w2.heap.size, 0, none⟩) 1 1) _ rfl hO0 _ ns rfl hR1 (by simp; omega) (by decide) (by have := G1.size; omega) ?_; intro v1 w1 hown hgrow hnil; have G3 := Grew.push G1 hO0 hgrow; have hfm := hown.form (by simp); obtain ⟨b1, c1, rfl, hb1, hb2⟩ := hfm; have i1 := fun w => (I1 w).out; have i2 := fun w => (I2 w).out)
      unfold hexText at i1 i2
      have hO1 := (hown.alloc (.cells #[.int .u8 42, .int .u8 y1, .int .u8 y2, .int .u8 13, .int .u8 10] 5)).drew
      have hL1 := Lib.hid ((own_lit (B := 0) w1 5 #[.int .u8 42, .int .u8 y1, .int .u8 y2, .int .u8 13, .int .u8 10] [42, y1, y2, 13, 10] 5 (Nat.zero_le _) rfl rfl (by simp [maxLen])).drew).row
      have G4 := (G3.alloc (.cells #[.int .u8 42, .int .u8 y1, .int .u8 y2, .int .u8 13, .int .u8 10] 5)).drew
      clear I1 I2 HL hown hgrow hnil hR1 hO0 G1 G2 hb1 hb2
      go_region_law (refine step_joinN _ rfl _ _ 23 rfl w.heap.size 5 .u8 1 Try.underlying23 infoU8 _ _ rfl hO1 _ [42, y1, y2, 13, 10] rfl hL1.out (by simp; omega) (by decide) G4.size ?_; intro v2 w2 hown2 hgrow2 hnil2)
      all_goals go_wp2_with fail
      all_goals go_ret2
      all_goals exact (HF _ _ hown2 (Grew.push G4 hO1 hgrow2)).out
end Go.Proofs.Ytkoklmecijejkaa
