/-
  Texts parted at commas: the document's Split, byte by byte, and the program's, by the library's.
-/
import Derived.Test.YtbgepjhnnlippaaDoorFldR
import Derived.Test.YtbgepjhnnlippaaDoorFlsB
import Derived.Test.YtbgepjhnnlippaaDoorFlsC
import Derived.Test.YtbgepjhnnlippaaDoorShelf
import Derived.LoopTactic
namespace Go.Proofs.YtbgepjhnnlippaaDoor
open Go.RowKit
set_option linter.unusedVariables false

theorem infoStr : (Tryd.prog.info? 9).map (fun i => (i.zero, i.size, i.bytes)) = some (some (.string ByteArray.empty), 1, 16) := by kernel_rfl
theorem one_cut (s : ByteArray) (j : Nat) (h : j < s.size) : s.extract j (j + 1) = ⟨#[s[j]]⟩ := by
  apply bytesOf_inj
  unfold bytesOf
  rw [ByteArray.data_extract, Array.toList_extract, List.extract_eq_take_drop, Nat.add_sub_cancel_left]
  have h2 : j < s.data.toList.length := by rw [Array.length_toList]; exact h
  rw [List.drop_eq_getElem_cons h2]
  rfl
theorem cut_comma (s : ByteArray) (j : Nat) (h : j < s.size) (hc : wd (nat s) j = 44) : cutTo s (j + 1) = cutTo s j ++ [⟨#[]⟩] := by
  rw [cutTo_succ s j h]
  unfold cut1
  rw [if_pos]
  apply UInt8.toNat_inj.1
  rw [nat_wd s j h, hc]; rfl
theorem cut_other (s : ByteArray) (j : Nat) (h : j < s.size) (hc : ¬ wd (nat s) j = 44) : cutTo s (j + 1) = (cutTo s j).set ((cutTo s j).length - 1) ((cutTo s j).getD ((cutTo s j).length - 1) ⟨#[]⟩ ++ s.extract j (j + 1)) := by
  rw [cutTo_succ s j h, one_cut s j h]
  unfold cut1
  rw [if_neg]
  intro e
  rw [← nat_wd s j h, e] at hc
  exact hc rfl
/-- What a Split has told. -/
def Parted (s : ByteArray) (w : World) (e : Ending) (w' : World) : Prop := ∃ v, e = .returned v ∧ RowS w' v (partsB s) ∧ Grew w w'
theorem fld_Split (s : ByteArray) (w : World) (hs : s.size ≤ 1000) : Calls Tryd.prog 5 #[.string s] w (Parted s w) := by
  have HS := fun w => Lib.hid (Any_strings_Split_one Tryd.lays146 (by kernel_rfl) s w (by omega))
  go_enter Tryd.func5, Tryd.ntmps5
  go_wp2_with (first | (go_at_call 13; refine (HS _).out.mono ?_; rintro e w1 ⟨rfl, rfl⟩))
  go_ret
  refine ⟨_, rfl, ⟨_, _, rfl, Nat.le_refl _, by simp, fun j x hj => ?_⟩, (Grew.refl w).alloc _⟩
  rw [cell_of_row _ _ _ _ _ _ (heap_alloc_new w _)]
  simp [hj]
set_option maxHeartbeats 1000000 in
theorem ref09_Split (s : ByteArray) (w : World) (hs : s.size ≤ 1000) : Calls Tryd.prog 6 #[.string s] w (Parted s w) := by
  have HA := fun j h w => Lib.hid (str_at s j h w)
  have HB := fun j => Lib.hid (nat_lt s j)
  have HC := fun j h hc => Lib.hid (cut_comma s j h hc)
  have HO := fun j h hc => Lib.hid (cut_other s j h hc)
  have HL := fun j => Lib.hid (cutTo_length s j)
  go_enter Tryd.func6, Tryd.ntmps6
  go_wp2_with fail
  go_loopw [3, 4] (fun out i wr => ∃ j : Nat, j ≤ s.size ∧ i = .int .i64 (j : Nat) ∧ Hid (OwnS w.heap.size 9 wr out (cutTo s j)) ∧ Hid (Grew w wr)) (fun _ i _ => s.size - (intOf i).toNat)
  case atStart => exact ⟨0, by omega, rfl, OwnS.one w 9 w.heap.size (Nat.le_refl _) _, (Grew.refl w).alloc _⟩
  case round =>
    obtain ⟨j, hj, rfl, hW, hG⟩ := hrel
    by_cases hlt : j < s.size
    · have y := fun w => (HA j hlt w).out
      have x256 := (HB j).out
      have j0 : (j : Int) < s.size := by omega
      have hl := (HL j).out
      by_cases hc : wd (nat s) j = 44
      · have HE := HC j hlt hc
        rw [hc] at y
        clear HC HO HL HA HB hc x256
        go_wp2_with (at_builtin; refine wpList_pushS _ rfl _ _ 23 rfl w.heap.size 9 Tryd.underlying23 infoStr _ (cutTo s j) rfl (hW.out.alloc _) ⟨wr.heap.size, 0, none⟩ ⟨#[]⟩ rfl (by simp) (by omega) (by have := hG.out.size; simp; omega) ?_; intro v1 w3 ho1 hg1)
        go_roundw
        case rel => exact ⟨j + 1, by omega, by simp, by rw [HE.out]; exact ho1, (hG.out.alloc _).pushS (hW.out.alloc _) hg1⟩
        case measure => simp [intOf]; omega
      · have HE := HO j hlt hc
        have x1 : ¬ ((wd (nat s) j : Nat) : Int) = 44 := by omega
        obtain ⟨g, c, rfl, hg1, hg2⟩ := hW.out.form hl.1
        have hcell := hW.out.at_ ((cutTo s j).length - 1) (by omega)
        have HST := fun x => Lib.hid (hW.out.set ((cutTo s j).length - 1) x (by omega))
        have hfr := hW.out.frozen ((cutTo s j).length - 1)
        clear HC HO HL HA HB hc hW
        have hp := cutTo_size s j ((cutTo s j).getD ((cutTo s j).length - 1) ⟨#[]⟩) (by rw [List.getD_eq_getElem?_getD, List.getElem?_eq_getElem (by omega)]; exact List.getElem_mem _)
        generalize (cutTo s j).getD ((cutTo s j).length - 1) ⟨#[]⟩ = p at *
        obtain ⟨m, hm⟩ : ∃ m, (cutTo s j).length = m + 1 := ⟨(cutTo s j).length - 1, by omega⟩
        rw [hm, Nat.add_sub_cancel] at hcell hfr HST HE
        rw [hm] at hl ⊢
        generalize wd (nat s) j = x at *
        have m1 : (0 : Int) ≤ j := by omega
        have m2 : IntKind.i64.wrap ((j : Int) + 1) = ((j + 1 : Nat) : Int) := by rw [IntWalk.i64_in _ (by omega)]; simp
        have m3 : ((j + 1 : Nat) : Int) ≤ s.size := by omega
        have m4 : (j : Int) ≤ ((j + 1 : Nat) : Int) := by omega
        have m5 : (0 : Int) ≤ ((j + 1 : Nat) : Int) := by omega
        have n1 : IntKind.i64.wrap (m : Int) = (m : Nat) := IntWalk.i64_in _ (by omega)
        have n2 : (0 : Int) ≤ m := by omega
        have n3 : (m : Int) < m + 1 := by omega
        obtain ⟨J, hJ⟩ : ∃ J, j + 1 = J := ⟨_, rfl⟩
        have HJ := Lib.hid hJ
        rw [hJ] at m2 m3 m4 m5 HE
        clear hJ
        have k1 : ¬ 9223372036854775807 < p.size + (min J s.size - j) := by omega
        go_wp2_with fail
        go_region
        go_wp2_with fail
        go_roundw
        case rel => exact ⟨J, by omega, rfl, by rw [HE.out]; exact (HST _).out.drew, (hG.out.setCell hg1 _).drew⟩
        case measure => have := HJ.out; simp [intOf]; omega
    · obtain rfl : j = s.size := by omega
      have hR := Lib.hid (hW.out.row (HL s.size).out.1)
      clear HC HO HL HA HB hW
      go_wp2_with fail
      go_ret
      exact ⟨_, rfl, hR.out, hG.out⟩
end Go.Proofs.YtbgepjhnnlippaaDoor
