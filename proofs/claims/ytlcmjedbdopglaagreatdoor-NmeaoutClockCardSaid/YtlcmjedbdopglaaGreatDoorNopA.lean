/-
  The program's sentences: bytes of a body, digits, which command it is.
-/
import Derived.Test.YtlcmjedbdopglaaGreatDoorNopM
import Derived.Test.YtlcmjedbdopglaaGreatDoorShelf
import Derived.Lib.ConvBytes
import Derived.Lib.AppendIntMem
import Derived.LoopTactic
import Derived.Deep.RegionHeld3
namespace Go.Proofs.YtlcmjedbdopglaaGreatDoor
open Go.RowKit
set_option linter.unusedVariables false

/-- The tables lie in the program's variables. -/
structure Tabs (w : World) : Prop where
  tab : Tab w
  pow : Lib.TabIs Tryz.prog w "internal/strconv.uint64pow10" .u64 Lib.pow10Tab
  lt : 0 < w.heap.size
  text : ∀ k : Nat, k < 8 → w.cell? ⟨0, 2 * k, none⟩ = some (.string (kindText k))
  num : ∀ k : Nat, k < 8 → w.cell? ⟨0, 2 * k + 1, none⟩ = some (.int .i64 (kindNum k : Nat))
theorem Tabs.grew {w w' : World} (h : Tabs w) (g : Grew w w') : Tabs w' :=
  ⟨h.tab.grew g, Lib.tabBelow_of_tabIs h.pow _ g, Nat.lt_of_lt_of_le h.lt g.size, fun k hk => (g.cell (by exact h.lt)).trans (h.text k hk), fun k hk => (g.cell (by exact h.lt)).trans (h.num k hk)⟩

/-- A conversion's row. -/
theorem bytes_grew (w : World) (e : TypeId) (s : ByteArray) : Grew w (Lib.bytesWorld w e s) := by
  refine ⟨rfl, rfl, rfl, by rw [Lib.bytesWorld_size]; omega, fun j hj => Lib.bytesWorld_at_old w e s j hj⟩
theorem bytes_row (w : World) (e : TypeId) (s : ByteArray) : Row .u8 (Lib.bytesWorld w e s) (.slice (some ⟨w.heap.size, 0, none⟩) s.size (grownCap w s.size 0 e)) (nat s) := by
  refine ⟨_, _, by rw [nat_length], by rw [nat_length]; exact grownCap_ge w _ _ _, fun hp => ⟨_, 0, rfl, by rw [Lib.bytesWorld_size]; omega, fun i hi => ?_⟩⟩
  rw [nat_length] at hi
  rw [Nat.zero_add, Lib.bytesWorld_cell w e s i hi]
  unfold wd nat
  rw [List.getD_eq_getElem?_getD, List.getD_eq_getElem?_getD, List.getElem?_map]
  cases s.data.toList[i]? <;> rfl

theorem nmo_digits (least : Nat) (v : Value) (ns : List Nat) (w : World) (hr : Row .i64 w v ns) (hl : least ≤ 4) (h3 : ns.length ≤ 3) (hn : ∀ i, wd ns i < 10000) (ht : Tabs w) :
    Calls Tryz.prog 11 #[.int .i64 (least : Nat), v] w fun e w' => e = .returned (.string (padTo least ns ns.length)) ∧ Grew w w' := by
  obtain ⟨A, c, rfl, hc, hrow⟩ := hr
  have HR := Lib.hid hrow
  have HT := Lib.hid ht
  have HN := Lib.hid hn
  clear hrow ht hn
  go_enter Tryz.func11, Tryz.ntmps11
  go_wp2_with fail
  go_loopg [5, 11] (ns.length) (fun kx s5 s11 wr => ∃ k : Nat, k + kx = ns.length ∧ s11 = .int .i64 k ∧ s5 = .string (padTo least ns k) ∧ Hid (Grew w wr))
  case atStart => exact ⟨0, by omega, rfl, rfl, Lib.hid (Grew.refl _)⟩
  case round =>
    obtain ⟨k, hk, rfl, rfl, hg⟩ := hrel
    by_cases hlt : k < ns.length
    · obtain ⟨b, o, rfl, hb, hcell⟩ := HR.out (by omega)
      have hx := (hg.out.cell (p := ⟨b, o + k, none⟩) hb).trans (hcell k hlt)
      have hnk := HN.out k
      have HI := fun w' (g : Grew w w') => Lib.hid (Tryz.strconv_Itoa (wd ns k : Nat) (by omega) (by omega) w' (HT.out.grew g).pow)
      have hO := dec_len 4 (wd ns k) (by decide) hnk
      have hS := Lib.hid (show padTo least ns (k + 1) = padTo least ns k ++ padB least (wd ns k) from rfl)
      have hsz := padTo_size least ns hl HN.out k
      have hU := Lib.hid (show padB least (wd ns k) = ⟨(Lib.repeatL [48] (least - (Lib.decDigits (wd ns k)).length)).toArray⟩ ++ ⟨(Lib.decDigits (wd ns k)).toArray⟩ from rfl)
      have hOs : (⟨(Lib.decDigits (wd ns k)).toArray⟩ : ByteArray).size = (Lib.decDigits (wd ns k)).length := by rw [← nat_length, nat_mk, List.length_map]
      rw [itoa_nat] at HI
      generalize wd ns k = n at *
      obtain ⟨O, hOe⟩ : ∃ O : ByteArray, (⟨(Lib.decDigits n).toArray⟩ : ByteArray) = O := ⟨_, rfl⟩
      rw [hOe] at HI hOs hU
      rw [← hOs] at hU hO
      have HRep := fun w' => Lib.hid (Tryz.strings_Repeat ⟨#[48]⟩ (least - O.size) w' (by omega) (by show 1 * (least - O.size) ≤ _; omega))
      rw [show (⟨#[48]⟩ : ByteArray).data.toList = [48] from rfl] at HRep
      have hRs : (⟨(Lib.repeatL [48] (least - O.size)).toArray⟩ : ByteArray).size = least - O.size := by rw [← nat_length, nat_mk, List.length_map, rep_48, List.length_replicate]
      generalize (⟨(Lib.repeatL [48] (least - O.size)).toArray⟩ : ByteArray) = Z at *
      have e1 : IntKind.i64.wrap ((least : Int) - (O.size : Int)) = (least : Int) - (O.size : Int) := IntWalk.i64_in _ (by omega)
      have em : max ((least : Int) - (O.size : Int)) 0 = ((least - O.size : Nat) : Int) := by omega
      have c1 : ¬ 9223372036854775807 < Z.size + O.size := by omega
      have c2 : ¬ 9223372036854775807 < (padTo least ns k).size + (Z ++ O).size := by rw [ByteArray.size_append]; omega
      generalize padTo least ns k = T at *
      clear hcell hOe hOs hRs
      go_wp2_with (go_at_call 26; refine (HI _ hg.out).out.mono ?_; rintro e w1 ⟨rfl, kk, os, rfl⟩)
      have g1 := Lib.hid (hg.out.trans (Lib.below_grow _ wr (Nat.le_refl _) kk os))
      generalize Sort.grow (wr.drewN kk) os = w1 at *
      go_wp2_with (go_at_call 27; refine (HRep _).out.mono ?_; rintro e w2 ⟨rfl, g2⟩; replace g2 := Lib.hid (g1.out.trans g2))
      go_roundg (ns.length - (k + 1))
      case measure => omega
      case rel => exact ⟨k + 1, by omega, by go_num, by rw [hS.out, hU.out], Lib.hid g2.out⟩
    · obtain rfl : k = ns.length := by omega
      go_wp2_with fail
      go_ret
      exact ⟨rfl, hg.out⟩

/-- A new variable of two cells. -/
theorem two_new (w : World) (x y : Value) (E : TypeId) : ∃ W, w.alloc (.cells #[x, y] E) = W ∧ Grew w W ∧ w.heap.size < W.heap.size ∧ (W.cell? ⟨w.heap.size, 0, none⟩ = some x ∧ W.cell? ⟨w.heap.size, 1, none⟩ = some y) ∧ W.frozen? ⟨w.heap.size, 0, none⟩ = false ∧ W.frozen? ⟨w.heap.size, 1, none⟩ = false :=
  ⟨_, rfl, (Grew.refl _).alloc _, by simp, ⟨by simp [go_sem], by simp [go_sem]⟩, by simp [go_sem], by simp [go_sem]⟩
theorem two_put {w W : World} (g : Grew w W) (x y : Value) : Grew w ((W.setCell ⟨w.heap.size, 0, none⟩ x).setCell ⟨w.heap.size, 1, none⟩ y) := (g.setCell (Nat.le_refl _) _).setCell (Nat.le_refl _) _

def AskedT (er : Nat) (L : ByteArray) (n : Nat) (w : World) (e : Ending) (w' : World) : Prop := e = .returned (.tuple #[.agg #[.string L, .int .i64 (n : Nat)], .int .i64 (er : Nat)]) ∧ Grew w w'
theorem kind_text (k : Nat) (h : 1 ≤ k ∧ k ≤ 7) : (kindText k).toList.isEmpty = false := by
  have : ∀ k : Fin 8, 1 ≤ k.val → (kindText k.val).toList.isEmpty = false := by decide +kernel
  exact this ⟨k, by omega⟩ h.1
set_option maxHeartbeats 1000000 in
theorem asked_none (k : Nat) (every : Int) (w : World) (hk : k < 256) (h : k = 0 ∨ 7 < k) (hv : -9223372036854775808 ≤ every ∧ every ≤ 9223372036854775807) (ht : Tabs w) :
    Calls Tryz.prog 29 #[.int .u8 (k : Nat), .int .i64 every] w (AskedT 7 ⟨#[]⟩ 0 w) := by
  have HT := Lib.hid ht
  clear ht
  rcases h with rfl | h
  · go_enter Tryz.func29, Tryz.ntmps29
    go_upto_region 1 with fail
    obtain ⟨W, hW, g0, hl, ⟨c0, c1⟩, f0, f1⟩ := two_new w (.string ⟨#[]⟩) (.int .i64 0) 75
    rw [hW]
    clear hW
    have hx := (HT.out.grew g0).text 0 (by decide)
    rw [show kindText 0 = ⟨#[]⟩ from rfl] at hx
    go_wp2_with fail
    refine bodyPost_ret (by simp [results, Tryz.results29, go_sem, c0, c1]; try rfl) rfl ?_
    exact ⟨rfl, two_put g0 _ _⟩
  · have h8 : (8 : Int) ≤ k := by omega
    go_enter Tryz.func29, Tryz.ntmps29
    go_upto_region 1 with fail
    obtain ⟨W, hW, g0, hl, ⟨c0, c1⟩, f0, f1⟩ := two_new w (.string ⟨#[]⟩) (.int .i64 0) 75
    rw [hW]
    clear hW
    go_wp2_with fail
    refine bodyPost_ret (by simp [results, Tryz.results29, go_sem, c0, c1]; try rfl) rfl ?_
    exact ⟨rfl, two_put g0 _ _⟩
set_option maxHeartbeats 1000000 in
theorem asked_arg (k : Nat) (every : Int) (w : World) (hk : 1 ≤ k ∧ k ≤ 7) (h : every < 0 ∨ 10 < every) (hv : -9223372036854775808 ≤ every ∧ every ≤ 9223372036854775807) (ht : Tabs w) :
    Calls Tryz.prog 29 #[.int .u8 (k : Nat), .int .i64 every] w (AskedT 2 ⟨#[]⟩ 0 w) := by
  have HT := Lib.hid ht
  have hL := kind_text k hk
  have h8 : ¬ (8 : Int) ≤ k := by omega
  have h9 : (k : Int) < 8 := by omega
  clear ht
  rcases h with h | h
  all_goals
    go_enter Tryz.func29, Tryz.ntmps29
    go_upto_region 1 with fail
    obtain ⟨W, hW, g0, hl, ⟨c0, c1⟩, f0, f1⟩ := two_new w (.string ⟨#[]⟩) (.int .i64 0) 75
    rw [hW]
    clear hW
    have hx := (HT.out.grew g0).text k (by omega)
    rw [Nat.mul_comm] at hx
    go_wp2_with fail
    refine bodyPost_ret (by simp [results, Tryz.results29, go_sem, c0, c1]; try rfl) rfl ?_
    exact ⟨rfl, two_put g0 _ _⟩
set_option maxHeartbeats 1000000 in
theorem asked_ok (k : Nat) (every : Int) (w : World) (hk : 1 ≤ k ∧ k ≤ 7) (h : 0 ≤ every ∧ every ≤ 10) (ht : Tabs w) :
    Calls Tryz.prog 29 #[.int .u8 (k : Nat), .int .i64 every] w (AskedT 0 (kindText k) (kindNum k) w) := by
  have HT := Lib.hid ht
  have hL := kind_text k hk
  have h8 : ¬ (8 : Int) ≤ k := by omega
  have h9 : (k : Int) < 8 := by omega
  have h0 : ¬ every < 0 := by omega
  have h1 : ¬ 10 < every := by omega
  clear ht h
  go_enter Tryz.func29, Tryz.ntmps29
  go_upto_region 1 with fail
  obtain ⟨W, hW, g0, hl, ⟨c0, c1⟩, f0, f1⟩ := two_new w (.string ⟨#[]⟩) (.int .i64 0) 75
  rw [hW]
  clear hW
  have hx := (HT.out.grew g0).text k (by omega)
  have hy := (HT.out.grew g0).num k (by omega)
  rw [Nat.mul_comm] at hx hy
  generalize kindText k = L at *
  generalize kindNum k = m at *
  go_wp2_with fail
  refine bodyPost_ret (by simp [results, Tryz.results29, go_sem, c0, c1]; try rfl) rfl ?_
  exact ⟨rfl, two_put g0 _ _⟩

theorem row_lit_i64 (w : World) (E : TypeId) (fr : Nat × Nat) (ns : List Nat) : Row .i64 (w.alloc (.cells (ns.map fun n => Value.int .i64 (n : Nat)).toArray E fr)) (.slice (some ⟨w.heap.size, 0, none⟩) ns.length ns.length) ns :=
  Row.of_block (heap_alloc_new _ _) (fun i hi => by simp [wd, hi]) _ (Nat.le_refl _)
theorem wd_one (n : Nat) (h : n < 10000) : ∀ i, wd [n] i < 10000 := fun i => by
  rcases i with _ | i
  · exact h
  · exact (by decide : 0 < 10000)
theorem wd_three (a b c : Nat) (ha : a < 10000) (hb : b < 10000) (hc : c < 10000) : ∀ i, wd [a, b, c] i < 10000 := fun i => by
  rcases i with _ | _ | _ | i
  · exact ha
  · exact hb
  · exact hc
  · exact (by decide : 0 < 10000)
theorem no_empty {s : ByteArray} (h : s.size ≠ 0) : s.toList.isEmpty = false := by
  rw [Lib.toList_data]
  cases hq : s.data.toList with
  | nil =>
    exfalso
    apply h
    rw [← nat_length]; unfold nat; rw [hq]; rfl
  | cons x l => rfl
end Go.Proofs.YtlcmjedbdopglaaGreatDoor
