/-
  The laws of pairings: the page's example.
-/
import Derived.Test.YtkijonnbngnliaaPapE
import Derived.Test.YtkijonnbngnliaaPapF
namespace Go.Proofs.Ytkijonnbngnliaa
open Go.RowKit
set_option linter.unusedVariables false

def kg0 : Pg := pgNew 500000000
def kg1 : Pg := ⟨[1000000000], 500000000, 1000000000, false, none⟩
def kg2 : Pg := ⟨[1000000000], 500000000, 1200000000, true, none⟩
def kg3 : Pg := ⟨[1000000000], 500000000, 1300000000, true, none⟩
def kg4 : Pg := ⟨[1000000000], 500000000, 1900000000, true, some (1900000000, ⟨0, false, 9, false, 0, true⟩)⟩
def kx (n : Int) (b : Bool) : Ms := ⟨0, false, n, false, 0, b⟩
theorem kEdge1 : kg0.edge 1000000000 = kg1 ∧ kg0.edgeP 1000000000 = none := ⟨rfl, rfl⟩
theorem kMsg1 : kg1.msg 1200000000 (kx 7 false) = kg2 ∧ kg1.msgP 1200000000 (kx 7 false) = some ⟨1000000000, kx 7 false⟩ := ⟨rfl, rfl⟩
theorem kMsg2 : kg2.msg 1300000000 (kx 8 false) = kg3 ∧ kg2.msgP 1300000000 (kx 8 false) = none := ⟨rfl, rfl⟩
theorem kMsg3 : kg3.msg 1900000000 (kx 9 true) = kg4 ∧ kg3.msgP 1900000000 (kx 9 true) = none := ⟨rfl, rfl⟩
theorem kEdge2 : kg4.edgeP 2000000000 = some ⟨2000000000, kx 9 true⟩ := rfl
-- [KNOWN
set_option maxRecDepth 100000 in
set_option maxHeartbeats 4000000 in
theorem law_known17 (w : World) : Calls Try.prog 5 #[] w fun e w' => e = .returned (.bool true) ∧ Grew w w' := by
  have HN := Lib.hid (pai_New w 500000000 (by decide))
  have HE1 : ∀ w' p q e hb, PaiAt w' p q e hb kg0 → Hid (Calls Try.prog 8 #[.pointer (some ⟨p, 0, none⟩), .int .i64 1000000000] w' fun x w'' => x = .returned (.tuple #[.agg #[.int .i64 0, .int .u8 0, .bool false, .int .i64 0, .bool false, .int .i64 0, .bool false], .bool false]) ∧ PaiAt w'' p q e hb kg1 ∧ Far (fun b => b = q ∨ b = e) w' w'') := fun w' p q e hb h => Lib.hid (by
    have := pai_Edge w' p q e hb kg0 1000000000 h (by decide)
    rw [kEdge1.1, kEdge1.2] at this
    exact this)
  have HM1 : ∀ w' p q e hb, PaiAt w' p q e hb kg1 → Hid (Calls Try.prog 9 #[.pointer (some ⟨p, 0, none⟩), .int .i64 1200000000, .agg #[.int .u8 0, .bool false, .int .i64 7, .bool false, .int .i64 0, .bool false]] w' fun x w'' => ∃ hb', x = .returned (.tuple #[.agg #[.int .i64 1000000000, .int .u8 0, .bool false, .int .i64 7, .bool false, .int .i64 0, .bool false], .bool true]) ∧ PaiAt w'' p q e hb' kg2 ∧ Far (fun b => b = q ∨ b = e) w' w'') := fun w' p q e hb h => Lib.hid (by
    have := pai_Message w' p q e hb kg1 1200000000 (kx 7 false) h (by decide)
    unfold MsgToldP at this
    rw [kMsg1.1, kMsg1.2] at this
    exact this.mono fun _ _ ⟨hb', a, b, _, c⟩ => ⟨hb', a, b, c⟩)
  have HM2 : ∀ w' p q e hb, PaiAt w' p q e hb kg2 → Hid (Calls Try.prog 9 #[.pointer (some ⟨p, 0, none⟩), .int .i64 1300000000, .agg #[.int .u8 0, .bool false, .int .i64 8, .bool false, .int .i64 0, .bool false]] w' fun x w'' => ∃ hb', x = .returned (.tuple #[.agg #[.int .i64 0, .int .u8 0, .bool false, .int .i64 0, .bool false, .int .i64 0, .bool false], .bool false]) ∧ PaiAt w'' p q e hb' kg3 ∧ Far (fun b => b = q ∨ b = e) w' w'') := fun w' p q e hb h => Lib.hid (by
    have := pai_Message w' p q e hb kg2 1300000000 (kx 8 false) h (by decide)
    unfold MsgToldP at this
    rw [kMsg2.1, kMsg2.2] at this
    exact this.mono fun _ _ ⟨hb', a, b, _, c⟩ => ⟨hb', a, b, c⟩)
  have HM3 : ∀ w' p q e hb, PaiAt w' p q e hb kg3 → Hid (Calls Try.prog 9 #[.pointer (some ⟨p, 0, none⟩), .int .i64 1900000000, .agg #[.int .u8 0, .bool false, .int .i64 9, .bool false, .int .i64 0, .bool true]] w' fun x w'' => ∃ hb', x = .returned (.tuple #[.agg #[.int .i64 0, .int .u8 0, .bool false, .int .i64 0, .bool false, .int .i64 0, .bool false], .bool false]) ∧ PaiAt w'' p q e hb' kg4 ∧ Far (fun b => b = q ∨ b = e) w' w'') := fun w' p q e hb h => Lib.hid (by
    have := pai_Message w' p q e hb kg3 1900000000 (kx 9 true) h (by decide)
    unfold MsgToldP at this
    rw [kMsg3.1, kMsg3.2] at this
    exact this.mono fun _ _ ⟨hb', a, b, _, c⟩ => ⟨hb', a, b, c⟩)
  have HE2 : ∀ w' p q e hb, PaiAt w' p q e hb kg4 → Hid (Calls Try.prog 8 #[.pointer (some ⟨p, 0, none⟩), .int .i64 2000000000] w' fun x w'' => x = .returned (.tuple #[.agg #[.int .i64 2000000000, .int .u8 0, .bool false, .int .i64 9, .bool false, .int .i64 0, .bool true], .bool true]) ∧ Far (fun b => b = q ∨ b = e) w' w'') := fun w' p q e hb h => Lib.hid (by
    have := pai_Edge w' p q e hb kg4 2000000000 h (by decide)
    rw [kEdge2] at this
    exact this.mono fun _ _ ⟨a, _, c⟩ => ⟨a, c⟩)
  go_enter Try.func5, Try.ntmps5
  go_upto_region 4 with (go_at_call 6; refine HN.out.mono ?_; rintro y w1 ⟨p, q, e, rfl, h1, sz1, g1⟩; replace h1 := Lib.hid h1; replace g1 := Lib.hid g1; replace sz1 := Lib.hid sz1)
  go_upto_region 5 with (go_at_call 8; refine (HE1 _ _ _ _ _ h1.out).out.mono ?_; rintro y w2 ⟨rfl, h2, f2⟩; replace h2 := Lib.hid h2; replace f2 := Lib.hid f2)
  have h2a := fun o => Lib.hid (h2.out.grew ((Grew.refl w2).alloc o))
  have F2 := fun o => Lib.hid ((Far.of_grew (F := fun b => b = q ∨ b = e) g1.out).trans (f2.out.trans (Far.of_grew ((Grew.refl w2).alloc o))))
  generalize hV2 : w2.alloc _ = V2
  have h2b : Hid (PaiAt V2 p q e p kg1) := Lib.hid (by rw [← hV2]; exact (h2a _).out)
  have F2b : Hid (Far (fun b => b = q ∨ b = e) w V2) := Lib.hid (by rw [← hV2]; exact (F2 _).out)
  clear hV2 h2a F2
  go_upto_region 6 with (go_at_call 9; refine (HM1 _ _ _ _ _ h2b.out).out.mono ?_; rintro y w3 ⟨hb3, rfl, h3, f3⟩; replace h3 := Lib.hid h3; replace f3 := Lib.hid f3)
  have X3 := Lib.hid (At.new w3 [.int .i64 1000000000, .int .u8 0, .bool false, .int .i64 7, .bool false, .int .i64 0, .bool false] 38)
  have h3b := Lib.hid (h3.out.grew ((Grew.refl w3).alloc (.cells #[.int .i64 1000000000, .int .u8 0, .bool false, .int .i64 7, .bool false, .int .i64 0, .bool false] 38)))
  have F3b := Lib.hid (F2b.out.trans (f3.out.trans (Far.of_grew ((Grew.refl w3).alloc (.cells #[.int .i64 1000000000, .int .u8 0, .bool false, .int .i64 7, .bool false, .int .i64 0, .bool false] 38)))))
  have hnq : w3.heap.size ≠ q := by have := h3.out.pag.at_.lt; omega
  have hne : w3.heap.size ≠ e := by have := h3.out.pag.log.lt; omega
  generalize hV3 : w3.alloc _ = V3 at X3 h3b F3b ⊢
  generalize w3.heap.size = n at *
  clear hV3
  go_upto_region 7 with (go_at_call 9; refine (HM2 _ _ _ _ _ h3b.out).out.mono ?_; rintro y w4 ⟨hb4, rfl, h4, f4⟩; replace h4 := Lib.hid h4; replace f4 := Lib.hid f4)
  generalize hV4 : w4.alloc _ = V4
  have g4 : Grew w4 V4 := by rw [← hV4]; exact (Grew.refl w4).alloc _
  have h4b := Lib.hid (h4.out.grew g4)
  have X4 := Lib.hid ((X3.out.far f4.out (by omega)).grew g4)
  have F4b := Lib.hid (F3b.out.trans (f4.out.trans (Far.of_grew g4)))
  clear hV4 g4
  go_upto_region 8 with (go_at_call 9; refine (HM3 _ _ _ _ _ h4b.out).out.mono ?_; rintro y w5 ⟨hb5, rfl, h5, f5⟩; replace h5 := Lib.hid h5; replace f5 := Lib.hid f5)
  generalize hV5 : w5.alloc _ = V5
  have g5 : Grew w5 V5 := by rw [← hV5]; exact (Grew.refl w5).alloc _
  have h5b := Lib.hid (h5.out.grew g5)
  have X5 := Lib.hid ((X4.out.far f5.out (by omega)).grew g5)
  have F5b := Lib.hid (F4b.out.trans (f5.out.trans (Far.of_grew g5)))
  clear hV5 g5
  go_upto_region 9 with (go_at_call 8; refine (HE2 _ _ _ _ _ h5b.out).out.mono ?_; rintro y w6 ⟨rfl, f6⟩; replace f6 := Lib.hid f6)
  have X6 := X5.out.far f6.out (by omega)
  have Y6 := At.new w6 [.int .i64 2000000000, .int .u8 0, .bool false, .int .i64 9, .bool false, .int .i64 0, .bool true] 38
  have g6 : Grew w6 (w6.alloc (.cells #[.int .i64 2000000000, .int .u8 0, .bool false, .int .i64 9, .bool false, .int .i64 0, .bool true] 38)) := (Grew.refl w6).alloc _
  have X7 := X6.grew g6
  have F6b := Lib.hid ((F5b.out.trans (f6.out.trans (Far.of_grew g6))).grew (Grew.refl w) (fun k h => by have := sz1.out; omega))
  generalize hV6 : w6.alloc _ = V6 at Y6 g6 X7 F6b ⊢
  have x0 := X7.cell 0 _ rfl
  have x3 := X7.cell 3 _ rfl
  have y0 := Y6.cell 0 _ rfl
  have y3 := Y6.cell 3 _ rfl
  have ltx := X7.lt
  have lty := Y6.lt
  clear X6 X7 Y6 g6 hV6
  go_wp2_with fail
  go_ret
  exact ⟨rfl, F6b.out⟩
-- KNOWN]
end Go.Proofs.Ytkijonnbngnliaa
