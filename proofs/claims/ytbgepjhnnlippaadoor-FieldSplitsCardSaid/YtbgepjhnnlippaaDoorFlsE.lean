/-
  The laws of fields: FieldSplits' walk.
-/
import Derived.Test.YtbgepjhnnlippaaDoorFlsD
import Derived.Test.YtbgepjhnnlippaaDoorFldX
import Derived.Deep.RegionHeld3
namespace Go.Proofs.YtbgepjhnnlippaaDoor
open Go.RowKit
set_option linter.unusedVariables false

/-- The parts, joined again. -/
theorem join_back (s : ByteArray) (b c : Nat) (w : World) (hs : s.size ≤ 1000) (hb : b < w.heap.size) (hc : (partsB s).length ≤ c) (hcell : ∀ (j : Nat) x, (partsB s)[j]? = some x → w.cell? ⟨b, j, none⟩ = some (.string x)) :
    Calls Tryd.prog 7 #[.slice (some ⟨b, 0, none⟩) (partsB s).length c, .string ⟨#[44]⟩] w fun e w' => e = .returned (.string s) ∧ Grew w w' := by
  have hl := partsB_le s
  have hj := partsB_join s
  refine (Tryd.strings_Join b 0 c (partsB s) ⟨#[44]⟩ w (fun j x hx => by rw [Nat.zero_add]; exact hcell j x hx) hb (by omega) hc ?_).mono fun e w' ⟨he, hw⟩ => ⟨?_, hw⟩
  · show (Lib.join ((partsB s).map (·.data.toList)) [44]).length ≤ _
    rw [hj, Array.length_toList]
    have : s.data.size = s.size := rfl
    omega
  · rw [he]
    show Ending.returned (.string ⟨(Lib.join ((partsB s).map (·.data.toList)) [44]).toArray⟩) = _
    rw [hj]
theorem no_comma (p : ByteArray) (h : (44 : UInt8) ∉ p.data.toList) (w : World) : Calls Tryd.prog 8 #[.string p, .string ⟨#[44]⟩] w fun e w' => e = .returned (.bool false) ∧ w' = w := by
  have hi : ∀ l : List UInt8, (44 : UInt8) ∉ l → Lib.indexByte l 44 = -1 := by
    intro l
    induction l with
    | nil => intro _; rfl
    | cons x l ih =>
      intro hx
      rw [List.mem_cons, not_or] at hx
      have := ih hx.2
      rw [← Lib.index_one] at this ⊢
      have hp : ([44] : List UInt8).isPrefixOf (x :: l) = false := by simp [List.isPrefixOf, hx.1]
      rw [Lib.index, hp, this]
      rfl
  have := Tryd.strings_Contains_one p 44 w
  rw [hi _ h] at this
  exact this

set_option maxHeartbeats 2000000 in
theorem law_splits (s : ByteArray) (w : World) : Calls Tryd.prog 3 #[.string s] w fun e w' => e = .returned (.bool true) ∧ Grew w w' := by
  have HK := fun w => Lib.hid (known_true w)
  by_cases h5 : s.size ≤ 500
  · have hn : ¬ (500 : Int) < s.size := by omega
    have HP := fun w => Lib.hid (fld_Split s w (by omega))
    have HR := fun w => Lib.hid (ref09_Split s w (by omega))
    have HJ := fun b c w h1 h2 h3 => Lib.hid (join_back s b c w (by omega) h1 h2 h3)
    have HC : ∀ (j : Nat) p, (partsB s)[j]? = some p → ∀ w, Hid _ := fun j p hj w => Lib.hid (no_comma p (partsB_no s p (List.mem_of_getElem? hj)) w)
    have hl := partsB_le s
    have hss : (s.toList == s.toList) = true := beq_self_eq_true _
    go_enter Tryd.func3, Tryd.ntmps3
    go_upto_region 4 with (first
      | (go_at_call 5; refine (HP _).out.mono ?_; rintro e w1 ⟨_, rfl, ⟨b1, c1, rfl, k1, l1, m1⟩, g1⟩)
      | (go_at_call 6; refine (HR _).out.mono ?_; rintro e w2 ⟨_, rfl, ⟨b2, c2, rfl, k2, l2, m2⟩, g2⟩))
    have M1 : ∀ W, Grew w2 W → Hid (∀ (j : Nat) x, (partsB s)[j]? = some x → W.cell? ⟨b1, j, none⟩ = some (.string x)) := fun W g => Lib.hid fun j x hj => ((g2.trans g).cell l1).trans (m1 j x hj)
    have M2 : ∀ W, Grew w2 W → Hid (∀ (j : Nat) x, (partsB s)[j]? = some x → W.cell? ⟨b2, j, none⟩ = some (.string x)) := fun W g => Lib.hid fun j x hj => (g.cell l2).trans (m2 j x hj)
    have HJ2 := HJ b1 c1 w2 (Nat.lt_of_lt_of_le l1 g2.size) k1 (M1 w2 (Grew.refl _)).out
    have G0 := Lib.hid (g1.trans g2)
    have GG := Lib.hid (Grew.refl w2)
    clear m1 m2 HP HR HJ
    generalize hQ : partsB s = ps at *
    obtain ⟨n, hn2⟩ : ∃ n, ps.length = n := ⟨_, rfl⟩
    have HN := Lib.hid hn2
    rw [hn2] at hl k1 k2 HJ2 ⊢
    clear hn2 hQ
    have hnn : ((n : Int) != n) = false := by simp
    go_wp2_with (first | (go_at_call 7; refine HJ2.out.mono ?_; rintro e w3 ⟨rfl, g3⟩))
    replace GG := Lib.hid (GG.out.trans g3)
    clear HJ2 g3 g1 g2 hss
    go_loopw [27] (fun i wr => ∃ j : Nat, j ≤ n ∧ i = .int .i64 (j : Nat) ∧ Hid (Grew w2 wr)) (fun i _ => n - (intOf i).toNat)
    case atStart => exact ⟨0, by omega, rfl, GG⟩
    case round =>
      obtain ⟨j, hj, rfl, hg⟩ := hrel
      by_cases hlt : j < n
      · have j0 : (j : Int) < n := by omega
        have j1 : (0 : Int) ≤ j := by omega
        obtain ⟨p, hp⟩ : ∃ p, ps[j]? = some p := ⟨_, List.getElem?_eq_getElem (by rw [HN.out]; exact hlt)⟩
        have KS : ∀ W, Grew wr W → W.cell? ⟨b1, j, none⟩ = some (.string p) ∧ W.cell? ⟨b2, j, none⟩ = some (.string p) := fun W g => ⟨(M1 W (hg.out.trans g)).out j p hp, (M2 W (hg.out.trans g)).out j p hp⟩
        have HCp := HC j p hp
        have hpp : (p.toList == p.toList) = true := beq_self_eq_true _
        have G : Grew wr wr.drew := (Grew.refl wr).drew
        clear HC M1 M2 hp HK hnn
        go_wp2_with fail
        go_region_held3 (fun w' => w'.cell? ⟨b1, j, none⟩ = some (.string p) ∧ w'.cell? ⟨b2, j, none⟩ = some (.string p)) (exact KS _ G) (first | (go_at_call 8; refine (HCp _).out.mono ?_; rintro e w1 ⟨rfl, rfl⟩))
        clear HCp KS
        go_wp2_with fail
        go_roundw
        case rel => exact ⟨j + 1, by omega, by simp, hg.out.trans G⟩
        case measure => simp [intOf]; omega
      · obtain rfl : j = n := by omega
        clear HC M1 M2
        go_wp2_with (first | (go_at_call 4; refine (HK _).out.mono ?_; rintro e w4 ⟨rfl, g4⟩))
        go_ret
        exact ⟨rfl, G0.out.trans (hg.out.trans g4)⟩
  · have hn : (500 : Int) < s.size := by omega
    go_enter Tryd.func3, Tryd.ntmps3
    go_wp2_with (first | (go_at_call 4; refine (HK _).out.mono ?_; rintro e w1 ⟨rfl, g1⟩))
    go_ret
    exact ⟨rfl, g1⟩
end Go.Proofs.YtbgepjhnnlippaaDoor
