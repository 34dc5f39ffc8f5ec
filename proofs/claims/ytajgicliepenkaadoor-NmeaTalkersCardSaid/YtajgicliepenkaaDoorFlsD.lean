/-
  Texts parted at commas: the document's Split, byte by byte, and the program's, by the library's.
-/
import Derived.Test.YtajgicliepenkaaDoorFldR
import Derived.Test.YtajgicliepenkaaDoorFlsB
import Derived.Test.YtajgicliepenkaaDoorFlsC
import Derived.Test.YtajgicliepenkaaDoorShelf
import Derived.LoopTactic
namespace Go.Proofs.YtajgicliepenkaaDoor
open Go.RowKit
set_option linter.unusedVariables false

theorem infoStr : (Tryd.prog.info? 9).map (fun i => (i.zero, i.size, i.bytes)) = some (some (.string ByteArray.empty), 1, 16) := by kernel_rfl
theorem one_cut (s : ByteArray) (j : Nat) (h : j < s.size) : s.extract j (j + 1) = ⟨#[s[j]]⟩ := by
  apply bytesOf_inj
  unfold bytesOf
  rw [ByteArray.data_extract, Array.toList_extract, List.extract_eq_take_drop, Nat.add_sub_cancel_left]
  have h2 : j < s.data.toList.length := by rw [Array.length_toList]; exact h
  rw [List.drop_eq_getElem_cons h2]
  rfl
theorem cut_comma (s : ByteArray) (j : Nat) (h : j < s.size) (hc : wd (nat s) j = 44) : cutTo s (j + 1) = cutTo s j ++ [⟨#[]⟩] := by
  rw [cutTo_succ s j h]
  unfold cut1
  rw [if_pos]
  apply UInt8.toNat_inj.1
  rw [nat_wd s j h, hc]; rfl
theorem cut_other (s : ByteArray) (j : Nat) (h : j < s.size) (hc : ¬ wd (nat s) j = 44) : cutTo s (j + 1) = (cutTo s j).set ((cutTo s j).length - 1) ((cutTo s j).getD ((cutTo s j).length - 1) ⟨#[]⟩ ++ s.extract j (j + 1)) := by
  rw [cutTo_succ s j h, one_cut s j h]
  unfold cut1
  rw [if_neg]
  intro e
  rw [← nat_wd s j h, e] at hc
  exact hc rfl
/-- What a Split has told. -/
def Parted (s : ByteArray) (w : World) (e : Ending) (w' : World) : Prop := ∃ v, e = .returned v ∧ RowS w' v (partsB s) ∧ Grew w w'
theorem fld_Split (s : ByteArray) (w : World) (hs : s.size ≤ 1000) : Calls Tryd.prog 7 #[.string s] w (Parted s w) := by
  have HS := fun w => Lib.hid (Any_strings_Split_one Tryd.lays146 (by kernel_rfl) s w (by omega))
  go_enter Tryd.func7, Tryd.ntmps7
  go_wp2_with (first | (go_at_call 17; refine (HS _).out.mono ?_; rintro e w1 ⟨rfl, rfl⟩))
  go_ret
  refine ⟨_, rfl, ⟨_, _, rfl, Nat.le_refl _, by simp, fun j x hj => ?_⟩, (Grew.refl w).alloc _⟩
  rw [cell_of_row _ _ _ _ _ _ (heap_alloc_new w _)]
  simp [hj]
end Go.Proofs.YtajgicliepenkaaDoor
