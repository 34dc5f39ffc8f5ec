/-
  The program's sentences: a second's.
-/
import Derived.Test.YtlcmjedbdopglaaGreatDoorNopB
import Derived.Test.YtlcmjedbdopglaaGreatDoorLocs
namespace Go.Proofs.YtlcmjedbdopglaaGreatDoor
open Go.RowKit
set_option linter.unusedVariables false

/-- The moment of a second in natural numbers. -/
structure IsAt (sec : Int) (Y m D H I S : Nat) : Prop where
  hin : InMonth (sec / 86400) (Y : Int) m
  eq : momentOf sec (Y : Int) m = moment (Y : Nat) (m : Nat) (D : Nat) (H : Nat) (I : Nat) (S : Nat)
  hy : 1900 ≤ Y ∧ Y ≤ 2199
  hm : 1 ≤ m ∧ m ≤ 12
  hd : 1 ≤ D ∧ D ≤ 31
  hh : H < 24
  hi : I < 60
  hs : S < 60
theorem is_at (sec : Int) (h : 0 ≤ sec ∧ sec < 9467107200) : ∃ Y m D H I S : Nat, IsAt sec Y m D H I S := by
  obtain ⟨y, m, hin⟩ := exists_month (sec / 86400) (by omega)
  have hy := hin.hy
  have hl := hin.len
  have hlo := hin.lo
  have hle := len_le y m
  obtain ⟨Y, rfl⟩ : ∃ Y : Nat, y = Y := ⟨y.toNat, by omega⟩
  refine ⟨Y, m, (sec / 86400 - (base Y + cum Y (m - 1)) + 1).toNat, (sec % 86400 / 3600).toNat, (sec % 86400 % 3600 / 60).toNat, (sec % 86400 % 60).toNat, hin, ?_, by omega, hin.hm, by omega, by omega, by omega, by omega⟩
  show moment _ _ _ _ _ _ = moment _ _ _ _ _ _
  rw [Int.toNat_of_nonneg (by omega), Int.toNat_of_nonneg (by omega), Int.toNat_of_nonneg (by omega), Int.toNat_of_nonneg (by omega)]
theorem row_three (W : World) (a b c : Nat) (E : TypeId) (fr : Nat × Nat) (g : Nat) (hb : g = W.heap.size) : Row .i64 (W.alloc (.cells #[.int .i64 (a : Nat), .int .i64 (b : Nat), .int .i64 (c : Nat)] E fr)) (.slice (some ⟨g, 0, none⟩) 3 3) [a, b, c] := by
  subst hb
  have := row_lit_i64 W E fr [a, b, c]
  simpa using this
theorem row_drew {k : IntKind} {w : World} {v : Value} {ns : List Nat} (h : Row k w v ns) : Row k w.drew v ns := h.grew (Grew.refl w).drew
theorem row_alloc {k : IntKind} {w : World} {v : Value} {ns : List Nat} (o : Obj) (h : Row k w v ns) : Row k (w.alloc o) v ns := h.grew ((Grew.refl w).alloc o)
theorem row_later {k : IntKind} {w w' : World} {v : Value} {ns : List Nat} (g : Grew w w') (h : Row k w v ns) : Row k w' v ns := h.grew g
/-- What numbers side by side are as a text (the first argument marks a walk's own). -/
def DigTo (mark : Int) (least : Int) (ns : List Nat) (s : ByteArray) : Prop := ∃ l : Nat, least = l ∧ l ≤ 4 ∧ ns.length ≤ 3 ∧ (∀ i, wd ns i < 10000) ∧ padTo l ns ns.length = s
theorem digits_to {mark least : Int} {s : ByteArray} (V : World) (v : Value) (ns : List Nat) (hr : Row .i64 V v ns) (h : DigTo mark least ns s) (ht : Tabs V) :
    Calls Tryz.prog 11 #[.int .i64 least, v] V fun e w' => e = .returned (.string s) ∧ Grew V w' := by
  obtain ⟨l, rfl, h4, h3, hn, rfl⟩ := h
  exact nmo_digits l v ns V hr h4 h3 hn ht

set_option maxHeartbeats 1000000 in
theorem prog_Clock_bad (sec : Int) (valid : Bool) (w : World) (hv : -9223372036854775808 ≤ sec ∧ sec ≤ 9223372036854775807) (hb : sec < 0 ∨ 9467107200 ≤ sec) (ht : Tabs w) (s : ByteArray) :
    Calls Tryz.prog 4 #[.int .i64 sec, .bool valid] w (CmdT 9 s w) := by
  have HO := fun w ht => Lib.hid (civ_Of_bad sec w hv ht hb)
  have HT := Lib.hid ht.tab
  clear ht
  go_enter Tryz.func4, Tryz.ntmps4
  go_wp2_with (go_at_call 9; refine (HO _ HT.out).out.mono ?_; rintro e w1 ⟨rfl, g1⟩)
  go_ret2
  exact cmdT_no (by decide) (g1.alloc _)
set_option maxHeartbeats 1000000 in
theorem prog_Clock_old (sec : Int) (valid : Bool) (w : World) (Y m D H I S : Nat) (h : IsAt sec Y m D H I S) (hY : Y < 1980) (ht : Tabs w) (s : ByteArray) :
    Calls Tryz.prog 4 #[.int .i64 sec, .bool valid] w (CmdT 9 s w) := by
  have HO := fun w ht => civ_Of_at sec Y m w h.hin ht
  rw [h.eq] at HO
  replace HO := fun w ht => Lib.hid (HO w ht)
  have HT := Lib.hid ht.tab
  have c1 : (Y : Int) < 1980 := by omega
  clear ht h hY
  go_enter Tryz.func4, Tryz.ntmps4
  go_upto_region 2 with (go_at_call 9; refine (HO _ HT.out).out.mono ?_; rintro e w1 ⟨rfl, g1⟩)
  obtain ⟨W, hW, g0, x⟩ := six_new w1 (.int .i64 (Y : Nat)) (.int .i64 (m : Nat)) (.int .i64 (D : Nat)) (.int .i64 (H : Nat)) (.int .i64 (I : Nat)) (.int .i64 (S : Nat)) 27
  rw [hW]
  clear hW
  obtain ⟨_, x0, x1, x2, x3, x4, x5⟩ := x
  go_wp2_with fail
  go_ret2
  exact cmdT_no (by decide) (g1.trans g0)
set_option maxRecDepth 100000 in
set_option maxHeartbeats 1000000 in
theorem prog_Clock_no (sec : Int) (w : World) (Y m D H I S : Nat) (h : IsAt sec Y m D H I S) (hY : 1980 ≤ Y) (ht : Tabs w) :
    Calls Tryz.prog 4 #[.int .i64 sec, .bool false] w (CmdT 0 noneB w) := by
  have HO := fun w ht => civ_Of_at sec Y m w h.hin ht
  rw [h.eq] at HO
  replace HO := fun w ht => Lib.hid (HO w ht)
  have HT := Lib.hid ht.tab
  have HS := fun w => Lib.hid (prog_Sentence noneB w (by decide))
  unfold noneB at HS
  have c1 : ¬ (Y : Int) < 1980 := by omega
  rw [cmdT_ok]
  clear ht h hY
  go_enter Tryz.func4, Tryz.ntmps4
  go_upto_region 2 with (go_at_call 9; refine (HO _ HT.out).out.mono ?_; rintro e w1 ⟨rfl, g1⟩)
  obtain ⟨W, hW, g0, x⟩ := six_new w1 (.int .i64 (Y : Nat)) (.int .i64 (m : Nat)) (.int .i64 (D : Nat)) (.int .i64 (H : Nat)) (.int .i64 (I : Nat)) (.int .i64 (S : Nat)) 27
  rw [hW]
  clear hW
  obtain ⟨_, x0, x1, x2, x3, x4, x5⟩ := x
  go_wp2_with (go_at_call 10; refine (HS _).out.mono ?_; rintro e w2 ⟨v, rfl, hrow, g2⟩)
  go_ret2
  exact ⟨v, rfl, hrow, (g1.trans g0).trans g2⟩

set_option maxRecDepth 100000 in
set_option maxHeartbeats 4000000 in
theorem prog_Clock_ok (sec : Int) (w : World) (Y m D H I S : Nat) (h : IsAt sec Y m D H I S) (hY : 1980 ≤ Y) (ht : Tabs w) :
    Calls Tryz.prog 4 #[.int .i64 sec, .bool true] w (CmdT 0 (clockB Y m D H I S) w) := by
  have HO := fun w ht => civ_Of_at sec Y m w h.hin ht
  rw [h.eq] at HO
  replace HO := fun w ht => Lib.hid (HO w ht)
  have HT0 := Lib.hid ht
  obtain ⟨er, hE⟩ : ∃ er, Hid (sentErr (clockB Y m D H I S) = er) := ⟨_, Lib.hid rfl⟩
  obtain ⟨L, hL⟩ : ∃ L, Hid (sentRow (clockB Y m D H I S) = L) := ⟨_, Lib.hid rfl⟩
  have HS := fun w => prog_Sentence (clockB Y m D H I S) w (by rw [clockB_size]; decide)
  rw [hE.out, hL.out] at HS
  replace HS := fun w => Lib.hid (HS w)
  have HD := fun (V : World) (v : Value) (ns : List Nat) (hr : Row .i64 V v ns) {least : Int} {s : ByteArray} (hs : DigTo sec least ns s) (hl : 0 ≤ least ∧ least ≤ 4) ht => Lib.hid (digits_to V v ns hr hs ht)
  have E3 : DigTo sec 2 [H, I, S] (digB 2 H ++ digB 2 I ++ digB 2 S) := ⟨2, rfl, by decide, by simp, wd_three H I S (by have := h.hh; omega) (by have := h.hi; omega) (by have := h.hs; omega), by rw [show [H, I, S].length = 3 from rfl, padTo_three, padB_eq 2 H (by decide) (by have := h.hh; omega), padB_eq 2 I (by decide) (by have := h.hi; omega), padB_eq 2 S (by decide) (by have := h.hs; omega)]⟩
  have ED : DigTo sec 2 [D] (digB 2 D) := ⟨2, rfl, by decide, by simp, wd_one D (by have := h.hd; omega), by rw [show [D].length = 1 from rfl, padTo_one, padB_eq 2 D (by decide) (by have := h.hd; omega)]⟩
  have Em : DigTo sec 2 [m] (digB 2 m) := ⟨2, rfl, by decide, by simp, wd_one m (by have := h.hm; omega), by rw [show [m].length = 1 from rfl, padTo_one, padB_eq 2 m (by decide) (by have := h.hm; omega)]⟩
  have E4 : DigTo sec 4 [Y] (digB 4 Y) := ⟨4, rfl, by decide, by simp, wd_one Y (by have := h.hy; omega), by rw [show [Y].length = 1 from rfl, padTo_one, padB_eq 4 Y (by decide) (by have := h.hy; omega)]⟩
  have c1 : ¬ (Y : Int) < 1980 := by omega
  rw [cmdT_ok, hE.out, hL.out]
  clear hE hL
  have hB := Lib.hid (show clockB Y m D H I S = (⟨#[71, 80, 90, 68, 65, 44]⟩ : ByteArray) ++ (digB 2 H ++ digB 2 I ++ digB 2 S) ++ ⟨#[44]⟩ ++ digB 2 D ++ ⟨#[44]⟩ ++ digB 2 m ++ ⟨#[44]⟩ ++ digB 4 Y ++ ⟨#[44, 48, 48, 44, 48, 48]⟩ from rfl)
  rw [hB.out] at HS
  have z1 : (digB 2 H ++ digB 2 I ++ digB 2 S).size = 6 := by rw [ByteArray.size_append, ByteArray.size_append, digB_size, digB_size, digB_size]
  have z2 := digB_size 2 D
  have z3 := digB_size 2 m
  have z4 := digB_size 4 Y
  generalize digB 2 H ++ digB 2 I ++ digB 2 S = T at *
  generalize digB 2 D = A at *
  generalize digB 2 m = B at *
  generalize digB 4 Y = C at *
  have j1 : ¬ 9223372036854775807 < 6 + T.size := by omega
  have j2 : ¬ 9223372036854775807 < 6 + T.size + 1 := by omega
  have j3 : ¬ 9223372036854775807 < 6 + T.size + 1 + A.size := by omega
  have j4 : ¬ 9223372036854775807 < 6 + T.size + 1 + A.size + 1 := by omega
  have j5 : ¬ 9223372036854775807 < 6 + T.size + 1 + A.size + 1 + B.size := by omega
  have j6 : ¬ 9223372036854775807 < 6 + T.size + 1 + A.size + 1 + B.size + 1 := by omega
  have j7 : ¬ 9223372036854775807 < 6 + T.size + 1 + A.size + 1 + B.size + 1 + C.size := by omega
  have j8 : ¬ 9223372036854775807 < 6 + T.size + 1 + A.size + 1 + B.size + 1 + C.size + 6 := by omega
  clear ht h hY z1 z2 z3 z4
  go_enter Tryz.func4, Tryz.ntmps4
  go_upto_region 2 with (go_at_call 9; refine (HO _ HT0.out.tab).out.mono ?_; rintro e w1 ⟨rfl, g1⟩)
  obtain ⟨W, hW, g0, x⟩ := six_new w1 (.int .i64 (Y : Nat)) (.int .i64 (m : Nat)) (.int .i64 (D : Nat)) (.int .i64 (H : Nat)) (.int .i64 (I : Nat)) (.int .i64 (S : Nat)) 27
  rw [hW]
  clear hW
  have G := g1.trans g0
  have HT := Lib.hid (HT0.out.grew G)
  have HX := Lib.hid x
  obtain ⟨_, x0, x1, x2, x3, x4, x5⟩ := x
  clear HT0 HO g1 g0
  go_upto_region 6 with fail
  refine wp_region_each (n := 56) (fun i w v => Left3 (([.inl (.pointer (some ⟨w1.heap.size, 3, none⟩)),
    .inl (.int .i64 (H : Nat)),
    .inl (.pointer (some ⟨w1.heap.size, 4, none⟩)),
    .inl (.int .i64 (I : Nat)),
    .inl (.pointer (some ⟨w1.heap.size, 5, none⟩)),
    .inl (.int .i64 (S : Nat)),
    .inr (.inl (.i64, [H, I, S])),
    .inl (.string T),
    .inl (.string ((⟨#[71, 80, 90, 68, 65, 44]⟩ : ByteArray) ++ T)),
    .inl (.string ((⟨#[71, 80, 90, 68, 65, 44]⟩ : ByteArray) ++ T ++ (⟨#[44]⟩ : ByteArray))),
    .inl (.pointer (some ⟨w1.heap.size, 2, none⟩)),
    .inl (.int .i64 (D : Nat)),
    .inr (.inl (.i64, [D])),
    .inl (.string A),
    .inl (.string ((⟨#[71, 80, 90, 68, 65, 44]⟩ : ByteArray) ++ T ++ (⟨#[44]⟩ : ByteArray) ++ A)),
    .inl (.string ((⟨#[71, 80, 90, 68, 65, 44]⟩ : ByteArray) ++ T ++ (⟨#[44]⟩ : ByteArray) ++ A ++ (⟨#[44]⟩ : ByteArray))),
    .inl (.pointer (some ⟨w1.heap.size, 1, none⟩)),
    .inl (.int .i64 (m : Nat)),
    .inr (.inl (.i64, [m])),
    .inl (.string B),
    .inl (.string ((⟨#[71, 80, 90, 68, 65, 44]⟩ : ByteArray) ++ T ++ (⟨#[44]⟩ : ByteArray) ++ A ++ (⟨#[44]⟩ : ByteArray) ++ B)),
    .inl (.string ((⟨#[71, 80, 90, 68, 65, 44]⟩ : ByteArray) ++ T ++ (⟨#[44]⟩ : ByteArray) ++ A ++ (⟨#[44]⟩ : ByteArray) ++ B ++ (⟨#[44]⟩ : ByteArray))),
    .inl (.pointer (some ⟨w1.heap.size, 0, none⟩)),
    .inl (.int .i64 (Y : Nat)),
    .inr (.inl (.i64, [Y])),
    .inl (.string C),
    .inl (.string ((⟨#[71, 80, 90, 68, 65, 44]⟩ : ByteArray) ++ T ++ (⟨#[44]⟩ : ByteArray) ++ A ++ (⟨#[44]⟩ : ByteArray) ++ B ++ (⟨#[44]⟩ : ByteArray) ++ C)),
    .inl (.string ((⟨#[71, 80, 90, 68, 65, 44]⟩ : ByteArray) ++ T ++ (⟨#[44]⟩ : ByteArray) ++ A ++ (⟨#[44]⟩ : ByteArray) ++ B ++ (⟨#[44]⟩ : ByteArray) ++ C ++ (⟨#[44, 48, 48, 44, 48, 48]⟩ : ByteArray))),
    .inr (.inr (L, er)),
    .inr (.inl (.u8, L)),
    .inl (.int .i64 (er : Nat)),
    .inr (.inl (.u8, L)),
    .inl (.int .i64 (er : Nat))] : List (Value ⊕ (IntKind × List Nat) ⊕ (List Nat × Nat))).getD i (.inl undef)) w v) ?_ ?_ ?_ ?_ ?_ ?_
  case refine_1 => kernel_rfl
  case refine_2 => kernel_rfl
  case refine_3 => rfl
  case refine_4 => exact fun i w w' v g h => Left3.grew g h
  case refine_5 =>
    simp only [AllFrom]
    refine ⟨?_, ?_, ?_, ?_, ?_, ?_, ?_, ?_, ?_, ?_, ?_, ?_, ?_, ?_, ?_, ?_, ?_, ?_, ?_, ?_, ?_, ?_, ?_, ?_, ?_, ?_, ?_, ?_, ?_, ?_, ?_, ?_, ?_, ?_⟩
    case refine_1 =>
      intro a w' ho hd g
      have e6 : a.tmps[6]?.getD undef = .pointer (some ⟨w1.heap.size, 0, none⟩) := (ho 6 (by kernel_rfl)).trans rfl
      refine each_value (v := .pointer (some ⟨w1.heap.size, 3, none⟩)) ?_ rfl
      simp [execOp, go_sem, e6]
    case refine_2 =>
      intro a w' ho hd g
      have e25 : a.tmps[25]?.getD undef = .pointer (some ⟨w1.heap.size, 3, none⟩) := hd 0 25 (by kernel_rfl) (by kernel_rfl)
      have hx := ((HX.out.grew g).2).2.2.2.1
      refine each_value (v := .int .i64 (H : Nat)) ?_ rfl
      simp [execOp, go_sem, e25, hx]
    case refine_3 =>
      intro a w' ho hd g
      have e6 : a.tmps[6]?.getD undef = .pointer (some ⟨w1.heap.size, 0, none⟩) := (ho 6 (by kernel_rfl)).trans rfl
      refine each_value (v := .pointer (some ⟨w1.heap.size, 4, none⟩)) ?_ rfl
      simp [execOp, go_sem, e6]
    case refine_4 =>
      intro a w' ho hd g
      have e27 : a.tmps[27]?.getD undef = .pointer (some ⟨w1.heap.size, 4, none⟩) := hd 2 27 (by kernel_rfl) (by kernel_rfl)
      have hx := ((HX.out.grew g).2).2.2.2.2.1
      refine each_value (v := .int .i64 (I : Nat)) ?_ rfl
      simp [execOp, go_sem, e27, hx]
    case refine_5 =>
      intro a w' ho hd g
      have e6 : a.tmps[6]?.getD undef = .pointer (some ⟨w1.heap.size, 0, none⟩) := (ho 6 (by kernel_rfl)).trans rfl
      refine each_value (v := .pointer (some ⟨w1.heap.size, 5, none⟩)) ?_ rfl
      simp [execOp, go_sem, e6]
    case refine_6 =>
      intro a w' ho hd g
      have e29 : a.tmps[29]?.getD undef = .pointer (some ⟨w1.heap.size, 5, none⟩) := hd 4 29 (by kernel_rfl) (by kernel_rfl)
      have hx := ((HX.out.grew g).2).2.2.2.2.2
      refine each_value (v := .int .i64 (S : Nat)) ?_ rfl
      simp [execOp, go_sem, e29, hx]
    case refine_7 =>
      intro a w' ho hd g
      have e26 : a.tmps[26]?.getD undef = .int .i64 (H : Nat) := hd 1 26 (by kernel_rfl) (by kernel_rfl)
      have e28 : a.tmps[28]?.getD undef = .int .i64 (I : Nat) := hd 3 28 (by kernel_rfl) (by kernel_rfl)
      have e30 : a.tmps[30]?.getD undef = .int .i64 (S : Nat) := hd 5 30 (by kernel_rfl) (by kernel_rfl)
      refine each_made (v := .slice (some ⟨w'.heap.size, 0, none⟩) 3 3) (w1 := w'.alloc (.cells #[.int .i64 (H : Nat), .int .i64 (I : Nat), .int .i64 (S : Nat)] 3)) ?_ ((Grew.refl _).alloc _) (row_three _ _ _ _ _ _ _ rfl)
      simp [execOp, go_sem, e26, e28, e30]
    case refine_8 =>
      intro a w' ho hd g
      have hr : Row .i64 w' (a.tmps[31]?.getD undef) [H, I, S] := hd 6 31 (by kernel_rfl) (by kernel_rfl)
      refine each_call (f := 11) (args := #[.int .i64 2, a.tmps[31]?.getD undef]) ?_ ((digits_to w' _ _ hr E3 (HT.out.grew g)).mono ?_)
      · simp [go_sem]
      · rintro e w'' ⟨rfl, g'⟩
        exact ⟨_, rfl, rfl, g'⟩
    case refine_9 =>
      intro a w' ho hd g
      have e32 : a.tmps[32]?.getD undef = .string T := hd 7 32 (by kernel_rfl) (by kernel_rfl)
      refine each_value (v := .string ((⟨#[71, 80, 90, 68, 65, 44]⟩ : ByteArray) ++ T)) ?_ rfl
      simp [execOp, go_sem, e32, j1]
    case refine_10 =>
      intro a w' ho hd g
      have e33 : a.tmps[33]?.getD undef = .string ((⟨#[71, 80, 90, 68, 65, 44]⟩ : ByteArray) ++ T) := hd 8 33 (by kernel_rfl) (by kernel_rfl)
      refine each_value (v := .string ((⟨#[71, 80, 90, 68, 65, 44]⟩ : ByteArray) ++ T ++ (⟨#[44]⟩ : ByteArray))) ?_ rfl
      simp [execOp, go_sem, e33, j2]
    case refine_11 =>
      intro a w' ho hd g
      have e6 : a.tmps[6]?.getD undef = .pointer (some ⟨w1.heap.size, 0, none⟩) := (ho 6 (by kernel_rfl)).trans rfl
      refine each_value (v := .pointer (some ⟨w1.heap.size, 2, none⟩)) ?_ rfl
      simp [execOp, go_sem, e6]
    case refine_12 =>
      intro a w' ho hd g
      have e35 : a.tmps[35]?.getD undef = .pointer (some ⟨w1.heap.size, 2, none⟩) := hd 10 35 (by kernel_rfl) (by kernel_rfl)
      have hx := ((HX.out.grew g).2).2.2.1
      refine each_value (v := .int .i64 (D : Nat)) ?_ rfl
      simp [execOp, go_sem, e35, hx]
    case refine_13 =>
      intro a w' ho hd g
      have e36 : a.tmps[36]?.getD undef = .int .i64 (D : Nat) := hd 11 36 (by kernel_rfl) (by kernel_rfl)
      refine each_made (v := .slice (some ⟨w'.heap.size, 0, none⟩) 1 1) (w1 := w'.alloc (.cells #[.int .i64 (D : Nat)] 3)) ?_ ((Grew.refl _).alloc _) (row_one _ _ _ _ _ rfl)
      simp [execOp, go_sem, e36]
    case refine_14 =>
      intro a w' ho hd g
      have hr : Row .i64 w' (a.tmps[37]?.getD undef) [D] := hd 12 37 (by kernel_rfl) (by kernel_rfl)
      refine each_call (f := 11) (args := #[.int .i64 2, a.tmps[37]?.getD undef]) ?_ ((digits_to w' _ _ hr ED (HT.out.grew g)).mono ?_)
      · simp [go_sem]
      · rintro e w'' ⟨rfl, g'⟩
        exact ⟨_, rfl, rfl, g'⟩
    case refine_15 =>
      intro a w' ho hd g
      have e34 : a.tmps[34]?.getD undef = .string ((⟨#[71, 80, 90, 68, 65, 44]⟩ : ByteArray) ++ T ++ (⟨#[44]⟩ : ByteArray)) := hd 9 34 (by kernel_rfl) (by kernel_rfl)
      have e38 : a.tmps[38]?.getD undef = .string A := hd 13 38 (by kernel_rfl) (by kernel_rfl)
      refine each_value (v := .string ((⟨#[71, 80, 90, 68, 65, 44]⟩ : ByteArray) ++ T ++ (⟨#[44]⟩ : ByteArray) ++ A)) ?_ rfl
      simp [execOp, go_sem, e34, e38, j3]
    case refine_16 =>
      intro a w' ho hd g
      have e39 : a.tmps[39]?.getD undef = .string ((⟨#[71, 80, 90, 68, 65, 44]⟩ : ByteArray) ++ T ++ (⟨#[44]⟩ : ByteArray) ++ A) := hd 14 39 (by kernel_rfl) (by kernel_rfl)
      refine each_value (v := .string ((⟨#[71, 80, 90, 68, 65, 44]⟩ : ByteArray) ++ T ++ (⟨#[44]⟩ : ByteArray) ++ A ++ (⟨#[44]⟩ : ByteArray))) ?_ rfl
      simp [execOp, go_sem, e39, j4]
    case refine_17 =>
      intro a w' ho hd g
      have e6 : a.tmps[6]?.getD undef = .pointer (some ⟨w1.heap.size, 0, none⟩) := (ho 6 (by kernel_rfl)).trans rfl
      refine each_value (v := .pointer (some ⟨w1.heap.size, 1, none⟩)) ?_ rfl
      simp [execOp, go_sem, e6]
    case refine_18 =>
      intro a w' ho hd g
      have e41 : a.tmps[41]?.getD undef = .pointer (some ⟨w1.heap.size, 1, none⟩) := hd 16 41 (by kernel_rfl) (by kernel_rfl)
      have hx := ((HX.out.grew g).2).2.1
      refine each_value (v := .int .i64 (m : Nat)) ?_ rfl
      simp [execOp, go_sem, e41, hx]
    case refine_19 =>
      intro a w' ho hd g
      have e42 : a.tmps[42]?.getD undef = .int .i64 (m : Nat) := hd 17 42 (by kernel_rfl) (by kernel_rfl)
      refine each_made (v := .slice (some ⟨w'.heap.size, 0, none⟩) 1 1) (w1 := w'.alloc (.cells #[.int .i64 (m : Nat)] 3)) ?_ ((Grew.refl _).alloc _) (row_one _ _ _ _ _ rfl)
      simp [execOp, go_sem, e42]
    case refine_20 =>
      intro a w' ho hd g
      have hr : Row .i64 w' (a.tmps[43]?.getD undef) [m] := hd 18 43 (by kernel_rfl) (by kernel_rfl)
      refine each_call (f := 11) (args := #[.int .i64 2, a.tmps[43]?.getD undef]) ?_ ((digits_to w' _ _ hr Em (HT.out.grew g)).mono ?_)
      · simp [go_sem]
      · rintro e w'' ⟨rfl, g'⟩
        exact ⟨_, rfl, rfl, g'⟩
    case refine_21 =>
      intro a w' ho hd g
      have e40 : a.tmps[40]?.getD undef = .string ((⟨#[71, 80, 90, 68, 65, 44]⟩ : ByteArray) ++ T ++ (⟨#[44]⟩ : ByteArray) ++ A ++ (⟨#[44]⟩ : ByteArray)) := hd 15 40 (by kernel_rfl) (by kernel_rfl)
      have e44 : a.tmps[44]?.getD undef = .string B := hd 19 44 (by kernel_rfl) (by kernel_rfl)
      refine each_value (v := .string ((⟨#[71, 80, 90, 68, 65, 44]⟩ : ByteArray) ++ T ++ (⟨#[44]⟩ : ByteArray) ++ A ++ (⟨#[44]⟩ : ByteArray) ++ B)) ?_ rfl
      simp [execOp, go_sem, e40, e44, j5]
    case refine_22 =>
      intro a w' ho hd g
      have e45 : a.tmps[45]?.getD undef = .string ((⟨#[71, 80, 90, 68, 65, 44]⟩ : ByteArray) ++ T ++ (⟨#[44]⟩ : ByteArray) ++ A ++ (⟨#[44]⟩ : ByteArray) ++ B) := hd 20 45 (by kernel_rfl) (by kernel_rfl)
      refine each_value (v := .string ((⟨#[71, 80, 90, 68, 65, 44]⟩ : ByteArray) ++ T ++ (⟨#[44]⟩ : ByteArray) ++ A ++ (⟨#[44]⟩ : ByteArray) ++ B ++ (⟨#[44]⟩ : ByteArray))) ?_ rfl
      simp [execOp, go_sem, e45, j6]
    case refine_23 =>
      intro a w' ho hd g
      have e6 : a.tmps[6]?.getD undef = .pointer (some ⟨w1.heap.size, 0, none⟩) := (ho 6 (by kernel_rfl)).trans rfl
      refine each_value (v := .pointer (some ⟨w1.heap.size, 0, none⟩)) ?_ rfl
      simp [execOp, go_sem, e6]
    case refine_24 =>
      intro a w' ho hd g
      have e47 : a.tmps[47]?.getD undef = .pointer (some ⟨w1.heap.size, 0, none⟩) := hd 22 47 (by kernel_rfl) (by kernel_rfl)
      have hx := ((HX.out.grew g).2).1
      refine each_value (v := .int .i64 (Y : Nat)) ?_ rfl
      simp [execOp, go_sem, e47, hx]
    case refine_25 =>
      intro a w' ho hd g
      have e48 : a.tmps[48]?.getD undef = .int .i64 (Y : Nat) := hd 23 48 (by kernel_rfl) (by kernel_rfl)
      refine each_made (v := .slice (some ⟨w'.heap.size, 0, none⟩) 1 1) (w1 := w'.alloc (.cells #[.int .i64 (Y : Nat)] 3)) ?_ ((Grew.refl _).alloc _) (row_one _ _ _ _ _ rfl)
      simp [execOp, go_sem, e48]
    case refine_26 =>
      intro a w' ho hd g
      have hr : Row .i64 w' (a.tmps[49]?.getD undef) [Y] := hd 24 49 (by kernel_rfl) (by kernel_rfl)
      refine each_call (f := 11) (args := #[.int .i64 4, a.tmps[49]?.getD undef]) ?_ ((digits_to w' _ _ hr E4 (HT.out.grew g)).mono ?_)
      · simp [go_sem]
      · rintro e w'' ⟨rfl, g'⟩
        exact ⟨_, rfl, rfl, g'⟩
    case refine_27 =>
      intro a w' ho hd g
      have e46 : a.tmps[46]?.getD undef = .string ((⟨#[71, 80, 90, 68, 65, 44]⟩ : ByteArray) ++ T ++ (⟨#[44]⟩ : ByteArray) ++ A ++ (⟨#[44]⟩ : ByteArray) ++ B ++ (⟨#[44]⟩ : ByteArray)) := hd 21 46 (by kernel_rfl) (by kernel_rfl)
      have e50 : a.tmps[50]?.getD undef = .string C := hd 25 50 (by kernel_rfl) (by kernel_rfl)
      refine each_value (v := .string ((⟨#[71, 80, 90, 68, 65, 44]⟩ : ByteArray) ++ T ++ (⟨#[44]⟩ : ByteArray) ++ A ++ (⟨#[44]⟩ : ByteArray) ++ B ++ (⟨#[44]⟩ : ByteArray) ++ C)) ?_ rfl
      simp [execOp, go_sem, e46, e50, j7]
    case refine_28 =>
      intro a w' ho hd g
      have e51 : a.tmps[51]?.getD undef = .string ((⟨#[71, 80, 90, 68, 65, 44]⟩ : ByteArray) ++ T ++ (⟨#[44]⟩ : ByteArray) ++ A ++ (⟨#[44]⟩ : ByteArray) ++ B ++ (⟨#[44]⟩ : ByteArray) ++ C) := hd 26 51 (by kernel_rfl) (by kernel_rfl)
      refine each_value (v := .string ((⟨#[71, 80, 90, 68, 65, 44]⟩ : ByteArray) ++ T ++ (⟨#[44]⟩ : ByteArray) ++ A ++ (⟨#[44]⟩ : ByteArray) ++ B ++ (⟨#[44]⟩ : ByteArray) ++ C ++ (⟨#[44, 48, 48, 44, 48, 48]⟩ : ByteArray))) ?_ rfl
      simp [execOp, go_sem, e51, j8]
    case refine_29 =>
      intro a w' ho hd g
      have e52 : a.tmps[52]?.getD undef = .string ((⟨#[71, 80, 90, 68, 65, 44]⟩ : ByteArray) ++ T ++ (⟨#[44]⟩ : ByteArray) ++ A ++ (⟨#[44]⟩ : ByteArray) ++ B ++ (⟨#[44]⟩ : ByteArray) ++ C ++ (⟨#[44, 48, 48, 44, 48, 48]⟩ : ByteArray)) := hd 27 52 (by kernel_rfl) (by kernel_rfl)
      refine each_call (f := 10) (args := #[.string ((⟨#[71, 80, 90, 68, 65, 44]⟩ : ByteArray) ++ T ++ (⟨#[44]⟩ : ByteArray) ++ A ++ (⟨#[44]⟩ : ByteArray) ++ B ++ (⟨#[44]⟩ : ByteArray) ++ C ++ (⟨#[44, 48, 48, 44, 48, 48]⟩ : ByteArray))]) ?_ ((HS w').out.mono ?_)
      · simp [go_sem, e52]
      · rintro e w'' ⟨u, rfl, hrow, g'⟩
        exact ⟨_, rfl, ⟨u, rfl, hrow⟩, g'⟩
    case refine_30 =>
      intro a w' ho hd g
      obtain ⟨u, e53, hrow⟩ : ∃ u, a.tmps[53]?.getD undef = .tuple #[u, .int .i64 (er : Nat)] ∧ Row .u8 w' u L := hd 28 53 (by kernel_rfl) (by kernel_rfl)
      refine each_value (v := u) ?_ hrow
      simp [execOp, go_sem, e53]
    case refine_31 =>
      intro a w' ho hd g
      obtain ⟨u, e53, hrow⟩ : ∃ u, a.tmps[53]?.getD undef = .tuple #[u, .int .i64 (er : Nat)] ∧ Row .u8 w' u L := hd 28 53 (by kernel_rfl) (by kernel_rfl)
      refine each_value (v := .int .i64 (er : Nat)) ?_ rfl
      simp [execOp, go_sem, e53]
    case refine_32 =>
      intro a w' ho hd g
      have hr : Row .u8 w' (a.tmps[54]?.getD undef) L := hd 29 54 (by kernel_rfl) (by kernel_rfl)
      refine each_value (v := a.tmps[54]?.getD undef) ?_ hr
      simp [execOp, go_sem]
    case refine_33 =>
      intro a w' ho hd g
      have e55 : a.tmps[55]?.getD undef = .int .i64 (er : Nat) := hd 30 55 (by kernel_rfl) (by kernel_rfl)
      refine each_value (v := .int .i64 (er : Nat)) ?_ rfl
      simp [execOp, go_sem, e55]
    case refine_34 => trivial
  case refine_6 =>
    intro a w' hdf hsz ho hd g
    have h4 : Row .u8 w' (a.tmps[4]?.getD undef) L := hd 31 4 (by kernel_rfl)
    have h5 : a.tmps[5]?.getD undef = .int .i64 (er : Nat) := hd 32 5 (by kernel_rfl)
    go_wp2_with fail
    refine bodyPost_ret (v := .tuple #[a.tmps[4]?.getD undef, .int .i64 (er : Nat)]) (by simp [results, Tryz.results4, go_sem, h5]; try rfl) hdf ?_
    exact ⟨_, rfl, h4, G.trans g⟩
end Go.Proofs.YtlcmjedbdopglaaGreatDoor
