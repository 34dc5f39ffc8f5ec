/-
  The document's frames: a frame's bytes.
-/
import Derived.Test.YtkoklmecijejkaaFrmM
import Derived.Test.YtkoklmecijejkaaRngS
import Derived.Test.YtkoklmecijejkaaSumX
import Derived.LoopTactic
import Derived.Deep.RegionHeld3
namespace Go.Proofs.Ytkoklmecijejkaa
open Go.RowKit
set_option linter.unusedVariables false

theorem frm_ret_bool {a b : Bool} (h : a = b) : Ending.returned (.bool a) = .returned (.bool b) := by rw [h]
theorem ref08_May (x : Nat) (w : World) (hx : x < 256) : Calls Try.prog 31 #[.int .u8 x] w fun e w' => e = .returned (.bool (may x)) ∧ w = w' := by
  have hm : may x = (decide ((32 : Int) ≤ x) && decide ((x : Int) ≤ 126) && decide ((x : Int) ≠ 36) && decide ((x : Int) ≠ 42)) := by
    unfold may
    rw [Bool.eq_iff_iff]
    simp
    omega
  rw [hm]
  clear hm
  go_enter Try.func31, Try.ntmps31
  go_wp2
  all_goals go_ret
  all_goals (refine ⟨frm_ret_bool ?_, rfl⟩; rw [Bool.eq_iff_iff]; simp)
  all_goals omega
theorem ref08_Digit (n : Nat) (w : World) (hn : n < 16) : Calls Try.prog 33 #[.int .u8 n] w fun e w' => e = .returned (.int .u8 (digit n : Nat)) ∧ w = w' := by
  by_cases h : n < 10
  · have hd : ((digit n : Nat) : Int) = 48 + n := by unfold digit; rw [if_pos h]; omega
    rw [hd]
    go_enter Try.func33, Try.ntmps33
    go_wp2_with fail
    go_ret
    exact ⟨rfl, rfl⟩
  · have hd : ((digit n : Nat) : Int) = 65 + n - 10 := by unfold digit; rw [if_neg h]; omega
    rw [hd]
    go_enter Try.func33, Try.ntmps33
    go_wp2_with fail
    go_ret
    exact ⟨rfl, rfl⟩

/-- A literal row. -/
theorem own_lit {B : Nat} (w : World) (E : TypeId) (cs : Array Value) (ns : List Nat) (n : Nat) (hB : B ≤ w.heap.size) (hc : cs = (cellsOf .u8 ns).toArray) (hn : n = ns.length) (hm : ns.length ≤ maxLen) : Own B E .u8 (w.alloc (.cells cs E)) (.slice (some ⟨w.heap.size, 0, none⟩) n n) ns := by
  subst hc hn
  exact Own.lit w .u8 E B hB ns hm

def BytesTells (k : Nat) (ns : List Nat) (w : World) (e : Ending) (w' : World) : Prop :=
  ∃ v, e = .returned (.tuple #[v, .int .i64 (frameErr k ns : Nat)]) ∧ Own w.heap.size 5 .u8 w' v (frameBytes k ns) ∧ Grew w w'
theorem bytesTells_no {k : Nat} {ns : List Nat} {w w' : World} (x : Nat) (h : frameErr k ns = x) (h0 : x ≠ 0) (g : Grew w w') : BytesTells k ns w (.returned (.tuple #[.slice none 0 0, .int .i64 (x : Nat)])) w' := by
  refine ⟨_, by rw [h], ?_, g⟩
  unfold frameBytes
  rw [if_neg (by omega)]
  exact Own.nil _ _ _ _
theorem bytesTells_is {k : Nat} {ns : List Nat} {w w' : World} {v : Value} (h : frameErr k ns = 0) (ho : Own w.heap.size 5 .u8 w' v (frameRow k ns)) (g : Grew w w') : BytesTells k ns w (.returned (.tuple #[v, .int .i64 0])) w' := by
  refine ⟨v, by rw [h]; rfl, ?_, g⟩
  unfold frameBytes
  rw [if_pos h]
  exact ho

theorem ref08_Bytes0 (k : Nat) (fv : Value) (ns : List Nat) (w : World) (hR : Row .u8 w fv ns) (hl : ns.length ≤ 5000) (hk : k < 256) (h1 : k ≠ 1) (h2 : k ≠ 2) (h3 : k ≠ 3) :
    Calls Try.prog 16 #[.agg #[.int .u8 k, fv]] w (BytesTells k ns w) := by
  have he : frameErr k ns = 2 := by unfold frameErr; rw [if_neg h1, if_neg h2, if_neg h3]
  have H := fun w' (g : Grew w w') => Lib.hid (bytesTells_no 2 he (by omega) g)
  obtain ⟨A, c, rfl, hc⟩ := hR.form
  have k1 : ¬ (k : Int) = 1 := by omega
  have k2 : ¬ (k : Int) = 2 := by omega
  have k3 : ¬ (k : Int) = 3 := by omega
  clear he h1 h2 h3 hR
  go_enter Try.func16, Try.ntmps16
  go_wp2_with fail
  go_ret2
  exact (H _ ((Grew.refl w).alloc _)).out

set_option maxRecDepth 100000 in
set_option maxHeartbeats 2000000 in
theorem ref08_Bytes1 (fv : Value) (ns : List Nat) (w : World) (hR : Row .u8 w fv ns) (hB : Bytes ns) (hl : ns.length ≤ 5000) :
    Calls Try.prog 16 #[.agg #[.int .u8 1, fv]] w (BytesTells 1 ns w) := by
  obtain ⟨A, c, rfl, hc⟩ := hR.form
  by_cases h76 : 76 < ns.length
  · have H := fun w' (g : Grew w w') => Lib.hid (bytesTells_no (k := 1) (ns := ns) 3 (by unfold frameErr; simp [h76]) (by omega) g)
    go_enter Try.func16, Try.ntmps16
    go_wp2_with fail
    go_ret2
    exact (H _ ((Grew.refl w).alloc _)).out
  · have HR := Lib.hid hR
    have HB := Lib.hid hB
    have HM := fun x w hx => Lib.hid (ref08_May x w hx)
    have HD := fun x w hx => Lib.hid (ref08_Digit x w hx)
    clear hB hR
    go_enter Try.func16, Try.ntmps16
    go_wp2_with fail
    have G : Grew w (w.alloc (.cells #[.int .u8 1, .slice A ns.length c] 34)) := (Grew.refl w).alloc _
    have k1 : (w.alloc (.cells #[.int .u8 1, .slice A ns.length c] 34)).cell? ⟨w.heap.size, 1, none⟩ = some (.slice A ns.length c) := by simp
    generalize (w.alloc (.cells #[.int .u8 1, .slice A ns.length c] 34)) = W at *
    go_loop [6] (fun i => ∃ j : Nat, j ≤ ns.length ∧ i = .int .i64 (j : Nat) ∧ Hid (∀ i, i < j → may (wd ns i) = true)) (fun i => ns.length - (intOf i).toNat)
    case atStart => exact ⟨0, by omega, rfl, fun i hi => by omega⟩
    case round =>
      obtain ⟨j, hj, rfl, hM⟩ := hrel
      by_cases hlt : j < ns.length
      · have hr := HR.out.grew G
        obtain ⟨Ax, cx, e0, hcx, hr⟩ := hr
        simp only [Value.slice.injEq] at e0
        obtain ⟨rfl, -, rfl⟩ := e0
        obtain ⟨rb, ro, rfl, hrb, hcell⟩ := hr (by omega)
        have y0 := hcell j (by omega)
        have hx256 := HB.out j
        clear hcell hcx hr hrb
        by_cases hmay : may (wd ns j) = true
        · have H1 := fun w => (HM (wd ns j) w hx256).out
          rw [hmay] at H1
          have HS : Hid (∀ i, i < j + 1 → may (wd ns i) = true) := fun i hi => by
            rcases Nat.lt_or_ge i j with h | h
            · exact hM.out i h
            · obtain rfl : i = j := by omega
              exact hmay
          have H1' := fun w => Lib.hid (H1 w)
          clear H1 hM hmay
          generalize wd ns j = x at *
          go_wp2_with fail
          refine (H1' _).out.mono ?_
          rintro e w1 ⟨rfl, rfl⟩
          go_wp2_with fail
          go_round
          case rel => exact ⟨j + 1, by omega, by simp, HS⟩
          case measure => simp [intOf]; omega
        · have hmf : may (wd ns j) = false := by simpa using hmay
          have H1 := fun w => (HM (wd ns j) w hx256).out
          rw [hmf] at H1
          have H1' := fun w => Lib.hid (H1 w)
          have H := fun w' (g : Grew w w') => Lib.hid (bytesTells_no (k := 1) (ns := ns) 5 (by
            unfold frameErr
            have : ¬ ns.all may = true := fun h => by
              rw [List.all_eq_true] at h
              rw [wd_lt hlt] at hmf
              rw [h _ (List.getElem_mem hlt)] at hmf
              cases hmf
            simp only [if_true, if_neg h76, if_neg this]) (by omega) g)
          clear H1 hM hmay hmf
          generalize wd ns j = x at *
          go_wp2_with fail
          refine (H1' _).out.mono ?_
          rintro e w1 ⟨rfl, rfl⟩
          go_wp2_with fail
          go_ret2
          exact (H _ G).out
      · obtain rfl : j = ns.length := by omega
        have hE : frameErr 1 ns = 0 := by
          unfold frameErr
          have : ns.all may = true := by
            rw [List.all_eq_true]
            intro x hx
            obtain ⟨i, hi, rfl⟩ := List.getElem_of_mem hx
            have := hM.out i hi
            rwa [wd_lt hi] at this
          simp only [if_true, if_neg h76, if_pos this]
        have hr := HR.out.grew G
        have HX := Lib.hid (ref07_Xor _ ns W hr HB.out (by omega))
        have hO0 := own_lit (B := w.heap.size) W 5 #[.int .u8 36] [36] 1 G.size rfl rfl (by decide)
        have G1 := G.alloc (.cells #[.int .u8 36] 5)
        have hR1 := hr.grew ((Grew.refl W).alloc (.cells #[.int .u8 36] 5))
        have k2 := ((((Grew.refl W).alloc (.cells #[.int .u8 36] 5)).cell (p := ⟨w.heap.size, 1, none⟩) (World.block_lt_of_cell? W _ k1)).trans k1)
        have hx : xorOf ns < 256 := xorTo_lt HB.out ns.length
        have HF := fun v w' (ho : Own w.heap.size 5 .u8 w' v (frameRow 1 ns)) g => Lib.hid (bytesTells_is hE ho g)
        simp only [frameRow, if_true] at HF
        generalize xorOf ns = x at *
        have HD1 : ∀ w, Hid (Calls Try.prog 33 #[.int .u8 ((x : Int) / 16)] w fun e w' => e = .returned (.int .u8 (digit (x / 16) : Nat)) ∧ w = w') := fun w => by
          have := (HD (x / 16) w (by omega)).out
          rw [show (((x / 16 : Nat)) : Int) = (x : Int) / 16 by omega] at this
          exact this
        have HD2 : ∀ w, Hid (Calls Try.prog 33 #[.int .u8 ((x : Int) % 16)] w fun e w' => e = .returned (.int .u8 (digit (x % 16) : Nat)) ∧ w = w') := fun w => by
          have := (HD (x % 16) w (by omega)).out
          rw [show (((x % 16 : Nat)) : Int) = (x : Int) % 16 by omega] at this
          exact this
        generalize digit (x / 16) = d1 at *
        generalize digit (x % 16) = d2 at *
        clear hM HM HB HR hr hE HD
        go_wp2_with fail
        refine HX.out.mono ?_
        rintro e w1 ⟨rfl, rfl⟩
        go_wp2_with (refine wpList_joinN _ rfl _ _ 23 rfl w.heap.size 5 .u8 1 Try.underlying23 infoU8 (.slice (some ⟨W.heap.size, 0, none⟩) 1 1) [36] rfl hO0 _ ns rfl hR1 (by simp; omega) (by decide) (by have := G1.size; omega) ?_; intro v1 w1 hown hgrow hnil)
        have G2 := Grew.push G1 hO0 hgrow
        go_wp2_with fail
        refine (HD1 _).out.mono ?_
        rintro e w2 ⟨rfl, rfl⟩
        go_wp2_with fail
        refine (HD2 _).out.mono ?_
        rintro e w2 ⟨rfl, rfl⟩
        have hO1 := hown.alloc (.cells #[.int .u8 42, .int .u8 d1, .int .u8 d2, .int .u8 13, .int .u8 10] 5)
        have hR2 := (own_lit (B := 0) w1 5 #[.int .u8 42, .int .u8 d1, .int .u8 d2, .int .u8 13, .int .u8 10] [42, d1, d2, 13, 10] 5 (Nat.zero_le _) rfl rfl (by simp [maxLen])).row
        go_wp2_with (refine wpList_joinN _ rfl _ _ 23 rfl w.heap.size 5 .u8 1 Try.underlying23 infoU8 v1 ([36] ++ ns) rfl hO1 _ [42, d1, d2, 13, 10] rfl hR2 (by simp; omega) (by decide) (by have := (G2.alloc (.cells #[.int .u8 42, .int .u8 d1, .int .u8 d2, .int .u8 13, .int .u8 10] 5)).size; omega) ?_; intro v2 w2 hown2 hgrow2 hnil2)
        go_ret2
        exact (HF _ _ (by simpa using hown2) (Grew.push (G2.alloc _) hO1 hgrow2)).out
end Go.Proofs.Ytkoklmecijejkaa
