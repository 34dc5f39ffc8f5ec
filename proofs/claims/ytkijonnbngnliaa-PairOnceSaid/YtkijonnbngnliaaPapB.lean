/-
  The program's pairing: an edge comes.
-/
import Derived.Test.YtkijonnbngnliaaPapA
import Derived.Deep.RegionHeld3
import Derived.Deep.MidRow
import Derived.Deep.CutBlock
import Derived.Deep.DeepCutAuto
import Derived.Test.YtkijonnbngnliaaHeldN
namespace Go.Proofs.Ytkijonnbngnliaa
open Go.RowKit
set_option linter.unusedVariables false

/-- The edge is refused. -/
theorem pag_edge_old (w : World) (q e hb : Nat) (g : Pg) (c : Int) (h : PagAt w q e hb g) (hc : c < g.latest) :
    Calls Try.prog 19 #[.pointer (some ⟨q, 0, none⟩), .int .i64 c] w fun x w' => x = .returned (.tuple #[pdV none, .bool false, .int .i64 2]) ∧ Grew w w' := by
  have lt := h.at_.lt
  have c0 := h.at_.cell 0 _ rfl
  have c2 := h.at_.cell 2 _ rfl
  clear h
  generalize g.latest = t at *
  go_enter Try.func19, Try.ntmps19
  go_wp2_with fail
  refine bodyPost_ret (by simp [results, Try.results19, go_sem]; try rfl) rfl ?_
  exact ⟨rfl, (Grew.refl w).alloc _⟩
set_option maxRecDepth 100000 in
set_option maxHeartbeats 4000000 in
/-- An edge comes where no message waits. -/
theorem pag_edge_none (w : World) (q e hb : Nat) (g : Pg) (c : Int) (h : PagAt w q e hb g) (hc : ¬ c < g.latest) (hm : c ≤ 9223372036854775807) (hw : g.waits = none) :
    Calls Try.prog 19 #[.pointer (some ⟨q, 0, none⟩), .int .i64 c] w fun x w' => x = .returned (.tuple #[pdV none, .bool false, .int .i64 0]) ∧ PagAt w' q e hb (g.edged c) ∧ Far (fun b => b = q ∨ b = e) w w' := by
  have HH := Lib.hid h
  have lt := h.at_.lt
  have c0 := h.at_.cell 0 _ rfl
  have c2 := h.at_.cell 2 _ rfl
  have hqe := h.qe
  have kl := h.ok.kl
  have kla := h.ok.last
  have hr0 := At.new w noPdC 38
  have hre : w.heap.size ≠ e := by have := h.log.lt; omega
  have hrq : w.heap.size ≠ q := by omega
  have gV := (Grew.refl w).alloc (.cells #[.int .i64 0, .int .u8 0, .bool false, .int .i64 0, .bool false, .int .i64 0, .bool false] 38)
  have HAdd := Lib.hid (log_AddOk _ e 0 g.L c (h.log.grew gV) ⟨by omega, hm⟩ (by omega))
  have HG := Lib.hid gV
  have HR0 := Lib.hid hr0
  have HOK := Lib.hid (h.ok.edged c (by omega) hm)
  clear hr0
  clear h gV kl kla
  generalize g.latest = t at *
  go_enter Try.func19, Try.ntmps19
  go_upto_region 6 with (go_at_call 27; refine HAdd.out.mono ?_; rintro x w1 ⟨rfl, l1, f1⟩)
  have H1 := Lib.hid ((HH.out.at_.grew HG.out).far f1 hqe)
  have F1 := Lib.hid (Far.of_grew (F := fun b => b = q ∨ b = e) HG.out |>.trans (f1.mono (fun _ _ h => .inr h)))
  have L1 := Lib.hid l1
  have R1 := Lib.hid (HR0.out.far f1 hre)
  have d4 := H1.out.cell 4 _ rfl
  rw [hw] at d4
  unfold waitV at d4
  have d0 := H1.out.cell 0 _ rfl
  have d1 := H1.out.cell 1 _ rfl
  have d2 := H1.out.cell 2 _ rfl
  have d3 := H1.out.cell 3 _ rfl
  have z2 := H1.out.fz 2
  have z3 := H1.out.fz 3
  have z4 := H1.out.fz 4
  have lt1 := H1.out.lt
  clear f1 l1 HAdd c0 c2
  go_upto_region 8 with fail
  generalize hV2 : (w1.setCell _ _).setCell _ _ = w2
  have H2 : Hid (At w2 q [.pointer (some ⟨e, 0, none⟩), .int .i64 g.win, .int .i64 c, .bool g.taken, .pointer none]) := Lib.hid (by
    rw [← hV2]
    have := (H1.out.set 2 (.int .i64 c) (by simp)).set 4 (.pointer none) (by simp)
    exact this)
  have F2 : Hid (Far (fun b => b = q ∨ b = e) w w2) := Lib.hid (by
    rw [← hV2]
    exact Far.setCell (F := fun b => b = q ∨ b = e) (Far.setCell (F := fun b => b = q ∨ b = e) F1.out (p := ⟨q, 2, none⟩) (.inl rfl) _) (p := ⟨q, 4, none⟩) (.inl rfl) _)
  have L2 : Hid (LogR w2 e 0 (pushE g.L c)) := Lib.hid (by
    rw [← hV2]
    exact (L1.out.far (Far.one w1 ⟨q, 2, none⟩ (.int .i64 c)) (fun h => hqe h.symm)).far (Far.one _ ⟨q, 4, none⟩ (.pointer none)) (fun h => hqe h.symm))
  have R2 : Hid (At w2 w.heap.size noPdC) := Lib.hid (by
    rw [← hV2]
    exact (R1.out.far (Far.one w1 ⟨q, 2, none⟩ (.int .i64 c)) hrq).far (Far.one _ ⟨q, 4, none⟩ (.pointer none)) hrq)
  clear H1 F1 L1 R1 HR0 d0 d1 d2 d3 d4 z2 z3 z4 lt1 hV2
  have lt2 := H2.out.lt
  have x1 := H2.out.cell 3 _ rfl
  have x2 := H2.out.fz 3
  refine wp_region_held_drew (S := (fun _ => True)) (by kernel_rfl) (by trivial) (fun hHeld => ?_)
  refine take_at (i := 0) (d := (some 38)) (v := ?_) rfl rfl (by kernel_rfl) (by kernel_rfl) (by kernel_rfl) (fun _ _ _ h => h) (Or.inl ⟨by rfl, ?_⟩) (by assumption) ?_
  rotate_left; · ((intro w hSw; (try dsimp only at hSw); go_simp) <;> with_reducible rfl)
  simp only [Act.put, List.setIfInBounds_toArray, List.set_cons_zero, List.set_cons_succ]
  refine take_at (i := 1) (d := (some 39)) (v := ?_) rfl rfl (by kernel_rfl) (by kernel_rfl) (by kernel_rfl) (fun _ _ _ h => h) (Or.inl ⟨by rfl, ?_⟩) (by assumption) ?_
  rotate_left; · ((intro w hSw; (try dsimp only at hSw); go_simp) <;> with_reducible rfl)
  simp only [Act.put, List.setIfInBounds_toArray, List.set_cons_zero, List.set_cons_succ]
  refine take_at (i := 2) (d := (some 40)) (v := ?_) rfl rfl (by kernel_rfl) (by kernel_rfl) (by kernel_rfl) (fun _ _ _ h => h) (Or.inl ⟨by rfl, ?_⟩) (by assumption) ?_
  rotate_left; · ((intro w hSw; (try dsimp only at hSw); go_simp) <;> with_reducible rfl)
  simp only [Act.put, List.setIfInBounds_toArray, List.set_cons_zero, List.set_cons_succ]
  refine take_at (i := 3) (d := (some 41)) (v := ?_) rfl rfl (by kernel_rfl) (by kernel_rfl) (by kernel_rfl) (fun _ _ _ h => h) (Or.inl ⟨by rfl, ?_⟩) (by assumption) ?_
  rotate_left; · ((intro w hSw; (try dsimp only at hSw); go_simp) <;> with_reducible rfl)
  simp only [Act.put, List.setIfInBounds_toArray, List.set_cons_zero, List.set_cons_succ]
  refine take_at (i := 4) (d := (some 42)) (v := undef) rfl rfl (by kernel_rfl) (by kernel_rfl) (by kernel_rfl) (fun _ _ _ h => h) (Or.inr ⟨by rfl, rfl⟩) (by assumption) ?_
  simp only [Act.put, List.setIfInBounds_toArray, List.set_cons_zero, List.set_cons_succ]
  refine take_at (i := 5) (d := (some 43)) (v := undef) rfl rfl (by kernel_rfl) (by kernel_rfl) (by kernel_rfl) (fun _ _ _ h => h) (Or.inr ⟨by rfl, rfl⟩) (by assumption) ?_
  simp only [Act.put, List.setIfInBounds_toArray, List.set_cons_zero, List.set_cons_succ]
  refine take_at (i := 6) (d := (some 44)) (v := undef) rfl rfl (by kernel_rfl) (by kernel_rfl) (by kernel_rfl) (fun _ _ _ h => h) (Or.inr ⟨by rfl, rfl⟩) (by assumption) ?_
  simp only [Act.put, List.setIfInBounds_toArray, List.set_cons_zero, List.set_cons_succ]
  refine take_at (i := 7) (d := (some 45)) (v := undef) rfl rfl (by kernel_rfl) (by kernel_rfl) (by kernel_rfl) (fun _ _ _ h => h) (Or.inr ⟨by rfl, rfl⟩) (by assumption) ?_
  simp only [Act.put, List.setIfInBounds_toArray, List.set_cons_zero, List.set_cons_succ]
  refine take_at (i := 8) (d := (some 46)) (v := undef) rfl rfl (by kernel_rfl) (by kernel_rfl) (by kernel_rfl) (fun _ _ _ h => h) (Or.inr ⟨by rfl, rfl⟩) (by assumption) ?_
  simp only [Act.put, List.setIfInBounds_toArray, List.set_cons_zero, List.set_cons_succ]
  refine take_at (i := 9) (d := (some 47)) (v := undef) rfl rfl (by kernel_rfl) (by kernel_rfl) (by kernel_rfl) (fun _ _ _ h => h) (Or.inr ⟨by rfl, rfl⟩) (by assumption) ?_
  simp only [Act.put, List.setIfInBounds_toArray, List.set_cons_zero, List.set_cons_succ]
  refine take_at (i := 10) (d := (some 48)) (v := undef) rfl rfl (by kernel_rfl) (by kernel_rfl) (by kernel_rfl) (fun _ _ _ h => h) (Or.inr ⟨by rfl, rfl⟩) (by assumption) ?_
  simp only [Act.put, List.setIfInBounds_toArray, List.set_cons_zero, List.set_cons_succ]
  refine take_at (i := 11) (d := (some 49)) (v := undef) rfl rfl (by kernel_rfl) (by kernel_rfl) (by kernel_rfl) (fun _ _ _ h => h) (Or.inr ⟨by rfl, rfl⟩) (by assumption) ?_
  simp only [Act.put, List.setIfInBounds_toArray, List.set_cons_zero, List.set_cons_succ]
  refine take_at (i := 12) (d := (some 50)) (v := undef) rfl rfl (by kernel_rfl) (by kernel_rfl) (by kernel_rfl) (fun _ _ _ h => h) (Or.inr ⟨by rfl, rfl⟩) (by assumption) ?_
  simp only [Act.put, List.setIfInBounds_toArray, List.set_cons_zero, List.set_cons_succ]
  refine take_at (i := 13) (d := (some 51)) (v := undef) rfl rfl (by kernel_rfl) (by kernel_rfl) (by kernel_rfl) (fun _ _ _ h => h) (Or.inr ⟨by rfl, rfl⟩) (by assumption) ?_
  simp only [Act.put, List.setIfInBounds_toArray, List.set_cons_zero, List.set_cons_succ]
  refine take_at (i := 14) (d := (some 52)) (v := undef) rfl rfl (by kernel_rfl) (by kernel_rfl) (by kernel_rfl) (fun _ _ _ h => h) (Or.inr ⟨by rfl, rfl⟩) (by assumption) ?_
  simp only [Act.put, List.setIfInBounds_toArray, List.set_cons_zero, List.set_cons_succ]
  refine take_at (i := 15) (d := (some 53)) (v := ?_) rfl rfl (by kernel_rfl) (by kernel_rfl) (by kernel_rfl) (fun _ _ _ h => h) (Or.inl ⟨by rfl, ?_⟩) (by assumption) ?_
  rotate_left; · ((intro w hSw; (try dsimp only at hSw); go_simp) <;> with_reducible rfl)
  simp only [Act.put, List.setIfInBounds_toArray, List.set_cons_zero, List.set_cons_succ]
  refine take_at (i := 16) (d := (some 54)) (v := ?_) rfl rfl (by kernel_rfl) (by kernel_rfl) (by kernel_rfl) (fun _ _ _ h => h) (Or.inl ⟨by rfl, ?_⟩) (by assumption) ?_
  rotate_left; · ((intro w hSw; (try dsimp only at hSw); go_simp) <;> with_reducible rfl)
  simp only [Act.put, List.setIfInBounds_toArray, List.set_cons_zero, List.set_cons_succ]
  refine take_at (i := 17) (d := (some 55)) (v := ?_) rfl rfl (by kernel_rfl) (by kernel_rfl) (by kernel_rfl) (fun _ _ _ h => h) (Or.inl ⟨by rfl, ?_⟩) (by assumption) ?_
  rotate_left; · ((intro w hSw; (try dsimp only at hSw); go_simp) <;> with_reducible rfl)
  simp only [Act.put, List.setIfInBounds_toArray, List.set_cons_zero, List.set_cons_succ]
  refine wpAnyH_ready (rs := [18]) (by kernel_rfl) (by simp) ?_
  refine AllReadyH.cons rfl (fun K hK => ?_) AllReadyH.nil
  go_simp
  go_wp2_with fail
  refine hK.out _ _ (by trivial) (fun hHeld => ?_)
  clear hK K
  refine wpAnyH_done (by kernel_rfl) ?_ _
  have H3 := Lib.hid (H2.out.set 3 (.bool false) (by simp))
  have F3 : Hid (Far (fun b => b = q ∨ b = e) w (w2.setCell ⟨q, 3, none⟩ (.bool false))) := Lib.hid (F2.out.setCell (F := fun b => b = q ∨ b = e) (p := ⟨q, 3, none⟩) (.inl rfl) _)
  have L3 := Lib.hid (L2.out.far (Far.one w2 ⟨q, 3, none⟩ (.bool false)) (fun h => hqe h.symm))
  have R3 := Lib.hid (R2.out.far (Far.one w2 ⟨q, 3, none⟩ (.bool false)) hrq)
  have lt3 := H3.out.lt
  have x3 : (w2.setCell ⟨q, 3, none⟩ (.bool false)).cell? ⟨q, 3, none⟩ = some (.bool false) := H3.out.cell 3 _ rfl
  obtain ⟨⟨r0, r1, r2, r3, r4, r5, r6⟩, y0, y1, y2, y3, y4, y5, y6⟩ := At.seven R3.out
  have ltr := R3.out.lt
  have hend : Hid (∀ W', Far (fun b => b = w.heap.size) (w2.setCell ⟨q, 3, none⟩ (.bool false)) W' → PagAt W' q e hb (g.edged c) ∧ Far (fun b => b = q ∨ b = e) w W') := Lib.hid (fun W' f => by
    have hh := HH.out
    refine ⟨⟨?_, L3.out.far f (fun h => hre h.symm), fun x e => (by cases e), hqe, hh.hq, hh.he, Nat.lt_of_lt_of_le hh.hl (Nat.le_trans F3.out.size f.size), HOK.out⟩, F3.out.beyond f (fun x e => .inr (by omega))⟩
    have := H3.out.far f (fun h => hrq h.symm)
    show At W' q [.pointer (some ⟨e, 0, none⟩), .int .i64 g.win, .int .i64 c, .bool (g.meets c), .pointer none]
    have e1 : g.meets c = false := by unfold Pg.meets; rw [hw]
    rw [e1]
    exact this)
  generalize w2.setCell ⟨q, 3, none⟩ (.bool false) = w3 at *
  generalize w.heap.size = r at *
  clear H2 F2 L2 R2 H3 F3 L3 R3 x1 x2 lt2
  go_wp2_with fail
  refine bodyPost_ret (by simp [results, Try.results19, go_sem, r0, r1, r2, r3, r4, r5, r6]; try rfl) rfl ?_
  refine ⟨?_, hend.out _ ?_⟩
  · rfl
  repeat (first | (with_reducible exact Far.refl _ _) | (with_reducible refine Far.drewF ?_) | (with_reducible refine Far.setCell (F := fun b => b = r) ?_ (p := ⟨r, _, none⟩) rfl _))
set_option maxRecDepth 100000 in
set_option maxHeartbeats 4000000 in
/-- An edge comes too late for the message that waits. -/
theorem pag_edge_late (w : World) (q e hb : Nat) (g : Pg) (c : Int) (h : PagAt w q e hb g) (hc : ¬ c < g.latest) (hm : c ≤ 9223372036854775807) (a : Int) (m : Ms) (hw : g.waits = some (a, m)) (hle : ¬ c - a ≤ g.win) :
    Calls Try.prog 19 #[.pointer (some ⟨q, 0, none⟩), .int .i64 c] w fun x w' => x = .returned (.tuple #[pdV none, .bool false, .int .i64 0]) ∧ PagAt w' q e hb (g.edged c) ∧ Far (fun b => b = q ∨ b = e) w w' := by
  have HH := Lib.hid h
  have HLE := Lib.hid hle
  have hd : decide (c - a ≤ g.win) = false := decide_eq_false hle
  have lt := h.at_.lt
  have c0 := h.at_.cell 0 _ rfl
  have c2 := h.at_.cell 2 _ rfl
  have hqe := h.qe
  have kl := h.ok.kl
  have kla := h.ok.last
  have hr0 := At.new w noPdC 38
  have hre : w.heap.size ≠ e := by have := h.log.lt; omega
  have hrq : w.heap.size ≠ q := by omega
  have gV := (Grew.refl w).alloc (.cells #[.int .i64 0, .int .u8 0, .bool false, .int .i64 0, .bool false, .int .i64 0, .bool false] 38)
  have HAdd := Lib.hid (log_AddOk _ e 0 g.L c (h.log.grew gV) ⟨by omega, hm⟩ (by omega))
  have HG := Lib.hid gV
  have HR0 := Lib.hid hr0
  have HOK := Lib.hid (h.ok.edged c (by omega) hm)
  clear hr0
  have HW0 := Lib.hid ((h.wait _ hw).grew gV)
  have hbq := h.hq
  have hbe := h.he
  have kq := h.ok.kq _ hw
  have e1 : IntKind.i64.wrap (c - a) = c - a := IntWalk.i64_in _ (by simp only at kq; omega)
  clear h gV kl kla kq
  generalize g.latest = t at *
  go_enter Try.func19, Try.ntmps19
  go_upto_region 6 with (go_at_call 27; refine HAdd.out.mono ?_; rintro x w1 ⟨rfl, l1, f1⟩)
  have H1 := Lib.hid ((HH.out.at_.grew HG.out).far f1 hqe)
  have F1 := Lib.hid (Far.of_grew (F := fun b => b = q ∨ b = e) HG.out |>.trans (f1.mono (fun _ _ h => .inr h)))
  have L1 := Lib.hid l1
  have R1 := Lib.hid (HR0.out.far f1 hre)
  have W1 := Lib.hid (HW0.out.far f1 hbe)
  have d4 := H1.out.cell 4 _ rfl
  rw [hw] at d4
  unfold waitV at d4
  have d0 := H1.out.cell 0 _ rfl
  have d1 := H1.out.cell 1 _ rfl
  have d2 := H1.out.cell 2 _ rfl
  have d3 := H1.out.cell 3 _ rfl
  have z2 := H1.out.fz 2
  have z3 := H1.out.fz 3
  have z4 := H1.out.fz 4
  have lt1 := H1.out.lt
  clear f1 l1 HAdd c0 c2
  go_upto_region 8 with fail
  generalize hV2 : (w1.setCell _ _).setCell _ _ = w2
  have H2 : Hid (At w2 q [.pointer (some ⟨e, 0, none⟩), .int .i64 g.win, .int .i64 c, .bool g.taken, .pointer none]) := Lib.hid (by
    rw [← hV2]
    have := (H1.out.set 2 (.int .i64 c) (by simp)).set 4 (.pointer none) (by simp)
    exact this)
  have F2 : Hid (Far (fun b => b = q ∨ b = e) w w2) := Lib.hid (by
    rw [← hV2]
    exact Far.setCell (F := fun b => b = q ∨ b = e) (Far.setCell (F := fun b => b = q ∨ b = e) F1.out (p := ⟨q, 2, none⟩) (.inl rfl) _) (p := ⟨q, 4, none⟩) (.inl rfl) _)
  have L2 : Hid (LogR w2 e 0 (pushE g.L c)) := Lib.hid (by
    rw [← hV2]
    exact (L1.out.far (Far.one w1 ⟨q, 2, none⟩ (.int .i64 c)) (fun h => hqe h.symm)).far (Far.one _ ⟨q, 4, none⟩ (.pointer none)) (fun h => hqe h.symm))
  have R2 : Hid (At w2 w.heap.size noPdC) := Lib.hid (by
    rw [← hV2]
    exact (R1.out.far (Far.one w1 ⟨q, 2, none⟩ (.int .i64 c)) hrq).far (Far.one _ ⟨q, 4, none⟩ (.pointer none)) hrq)
  have W2 : Hid (At w2 hb (waitC (a, m))) := Lib.hid (by
    rw [← hV2]
    exact (W1.out.far (Far.one w1 ⟨q, 2, none⟩ (.int .i64 c)) hbq).far (Far.one _ ⟨q, 4, none⟩ (.pointer none)) hbq)
  have KS : ∀ w', Grew w2 w' → Hid (w'.cell? ⟨hb, 0, none⟩ = some (.int .i64 a) ∧ w'.cell? ⟨q, 1, none⟩ = some (.int .i64 g.win)) := fun w' k => Lib.hid ⟨(W2.out.grew k).cell 0 _ rfl, (H2.out.grew k).cell 1 _ rfl⟩
  have KT : ∀ w', Grew w2 w' → ∀ u, Hid ((w'.setCell ⟨q, 3, none⟩ u).cell? ⟨hb, 0, none⟩ = some (.int .i64 a) ∧ (w'.setCell ⟨q, 3, none⟩ u).cell? ⟨q, 1, none⟩ = some (.int .i64 g.win)) := fun w' k u => Lib.hid ⟨((W2.out.grew k).far (Far.one w' ⟨q, 3, none⟩ u) hbq).cell 0 _ rfl, ((H2.out.grew k).set 3 u (by simp)).cell 1 _ rfl⟩
  clear H1 F1 L1 R1 W1 HR0 HW0 d0 d1 d2 d3 d4 z2 z3 z4 lt1 hV2
  have lt2 := H2.out.lt
  have x1 := H2.out.cell 3 _ rfl
  have x2 := H2.out.fz 3
  refine wp_region_held_drew (S := (fun w' => w'.cell? ⟨hb, 0, none⟩ = some (.int .i64 a) ∧ w'.cell? ⟨q, 1, none⟩ = some (.int .i64 g.win))) (by kernel_rfl) (by first | exact (KS _ ((Grew.refl w2).drew)).out | exact (KT _ ((Grew.refl w2).drew) _).out) (fun hHeld => ?_)
  refine take_at (i := 0) (d := (some 38)) (v := ?_) rfl rfl (by kernel_rfl) (by kernel_rfl) (by kernel_rfl) (fun _ _ _ h => h) (Or.inl ⟨by rfl, ?_⟩) (by assumption) ?_
  rotate_left; · ((intro w hSw; (try dsimp only at hSw); go_simp) <;> with_reducible rfl)
  simp only [Act.put, List.setIfInBounds_toArray, List.set_cons_zero, List.set_cons_succ]
  refine take_at (i := 1) (d := (some 39)) (v := ?_) rfl rfl (by kernel_rfl) (by kernel_rfl) (by kernel_rfl) (fun _ _ _ h => h) (Or.inl ⟨by rfl, ?_⟩) (by assumption) ?_
  rotate_left; · ((intro w hSw; (try dsimp only at hSw); go_simp) <;> with_reducible rfl)
  simp only [Act.put, List.setIfInBounds_toArray, List.set_cons_zero, List.set_cons_succ]
  refine take_at (i := 2) (d := (some 40)) (v := ?_) rfl rfl (by kernel_rfl) (by kernel_rfl) (by kernel_rfl) (fun _ _ _ h => h) (Or.inl ⟨by rfl, ?_⟩) (by assumption) ?_
  rotate_left; · ((intro w hSw; (try dsimp only at hSw); go_simp) <;> with_reducible rfl)
  simp only [Act.put, List.setIfInBounds_toArray, List.set_cons_zero, List.set_cons_succ]
  refine take_at (i := 3) (d := (some 41)) (v := ?_) rfl rfl (by kernel_rfl) (by kernel_rfl) (by kernel_rfl) (fun _ _ _ h => h) (Or.inl ⟨by rfl, ?_⟩) (by assumption) ?_
  rotate_left; · ((intro w hSw; (try dsimp only at hSw); go_simp) <;> with_reducible rfl)
  simp only [Act.put, List.setIfInBounds_toArray, List.set_cons_zero, List.set_cons_succ]
  refine take_at (i := 4) (d := (some 42)) (v := ?_) rfl rfl (by kernel_rfl) (by kernel_rfl) (by kernel_rfl) (fun _ _ _ h => h) (Or.inl ⟨by rfl, ?_⟩) (by assumption) ?_
  rotate_left; · ((intro w hSw; (try dsimp only at hSw); go_simp) <;> with_reducible rfl)
  simp only [Act.put, List.setIfInBounds_toArray, List.set_cons_zero, List.set_cons_succ]
  refine take_at (i := 5) (d := (some 43)) (v := ?_) rfl rfl (by kernel_rfl) (by kernel_rfl) (by kernel_rfl) (fun _ _ _ h => h) (Or.inl ⟨by rfl, ?_⟩) (by assumption) ?_
  rotate_left; · ((intro w hSw; (try dsimp only at hSw); go_simp) <;> with_reducible rfl)
  simp only [Act.put, List.setIfInBounds_toArray, List.set_cons_zero, List.set_cons_succ]
  refine take_at (i := 6) (d := (some 44)) (v := ?_) rfl rfl (by kernel_rfl) (by kernel_rfl) (by kernel_rfl) (fun _ _ _ h => h) (Or.inl ⟨by rfl, ?_⟩) (by assumption) ?_
  rotate_left; · ((intro w hSw; (try dsimp only at hSw); go_simp) <;> with_reducible rfl)
  simp only [Act.put, List.setIfInBounds_toArray, List.set_cons_zero, List.set_cons_succ]
  refine take_at (i := 7) (d := (some 45)) (v := ?_) rfl rfl (by kernel_rfl) (by kernel_rfl) (by kernel_rfl) (fun _ _ _ h => h) (Or.inl ⟨by rfl, ?_⟩) (by assumption) ?_
  rotate_left; · ((intro w hSw; (try dsimp only at hSw); go_simp) <;> with_reducible rfl)
  simp only [Act.put, List.setIfInBounds_toArray, List.set_cons_zero, List.set_cons_succ]
  refine take_at (i := 8) (d := (some 46)) (v := ?_) rfl rfl (by kernel_rfl) (by kernel_rfl) (by kernel_rfl) (fun _ _ _ h => h) (Or.inl ⟨by rfl, ?_⟩) (by assumption) ?_
  rotate_left; · ((intro w hSw; (try dsimp only at hSw); go_simp) <;> with_reducible rfl)
  simp only [Act.put, List.setIfInBounds_toArray, List.set_cons_zero, List.set_cons_succ]
  refine take_at (i := 9) (d := (some 47)) (v := ?_) rfl rfl (by kernel_rfl) (by kernel_rfl) (by kernel_rfl) (fun _ _ _ h => h) (Or.inl ⟨by rfl, ?_⟩) (by assumption) ?_
  rotate_left; · ((intro w hSw; (try dsimp only at hSw); go_simp) <;> with_reducible rfl)
  simp only [Act.put, List.setIfInBounds_toArray, List.set_cons_zero, List.set_cons_succ]
  refine take_at (i := 10) (d := (some 48)) (v := ?_) rfl rfl (by kernel_rfl) (by kernel_rfl) (by kernel_rfl) (fun _ _ _ h => h) (Or.inl ⟨by rfl, ?_⟩) (by assumption) ?_
  rotate_left; · ((intro w hSw; (try dsimp only at hSw); go_simp) <;> with_reducible rfl)
  simp only [Act.put, List.setIfInBounds_toArray, List.set_cons_zero, List.set_cons_succ]
  refine take_at (i := 11) (d := (some 49)) (v := ?_) rfl rfl (by kernel_rfl) (by kernel_rfl) (by kernel_rfl) (fun _ _ _ h => h) (Or.inl ⟨by rfl, ?_⟩) (by assumption) ?_
  rotate_left; · ((intro w hSw; (try dsimp only at hSw); go_simp) <;> with_reducible rfl)
  simp only [Act.put, List.setIfInBounds_toArray, List.set_cons_zero, List.set_cons_succ]
  refine take_at (i := 12) (d := (some 50)) (v := ?_) rfl rfl (by kernel_rfl) (by kernel_rfl) (by kernel_rfl) (fun _ _ _ h => h) (Or.inl ⟨by rfl, ?_⟩) (by assumption) ?_
  rotate_left; · ((intro w hSw; (try dsimp only at hSw); go_simp) <;> with_reducible rfl)
  simp only [Act.put, List.setIfInBounds_toArray, List.set_cons_zero, List.set_cons_succ]
  refine take_at (i := 13) (d := (some 51)) (v := ?_) rfl rfl (by kernel_rfl) (by kernel_rfl) (by kernel_rfl) (fun _ _ _ h => h) (Or.inl ⟨by rfl, ?_⟩) (by assumption) ?_
  rotate_left; · ((intro w hSw; (try dsimp only at hSw); go_simp) <;> with_reducible rfl)
  simp only [Act.put, List.setIfInBounds_toArray, List.set_cons_zero, List.set_cons_succ]
  refine take_at (i := 14) (d := (some 52)) (v := ?_) rfl rfl (by kernel_rfl) (by kernel_rfl) (by kernel_rfl) (fun _ _ _ h => h) (Or.inl ⟨by rfl, ?_⟩) (by assumption) ?_
  rotate_left; · ((intro w hSw; (try dsimp only at hSw); go_simp) <;> with_reducible rfl)
  simp only [Act.put, List.setIfInBounds_toArray, List.set_cons_zero, List.set_cons_succ]
  refine take_at (i := 15) (d := (some 53)) (v := ?_) rfl rfl (by kernel_rfl) (by kernel_rfl) (by kernel_rfl) (fun _ _ _ h => h) (Or.inl ⟨by rfl, ?_⟩) (by assumption) ?_
  rotate_left; · ((intro w hSw; (try dsimp only at hSw); go_simp) <;> with_reducible rfl)
  simp only [Act.put, List.setIfInBounds_toArray, List.set_cons_zero, List.set_cons_succ]
  refine take_at (i := 16) (d := (some 54)) (v := ?_) rfl rfl (by kernel_rfl) (by kernel_rfl) (by kernel_rfl) (fun _ _ _ h => h) (Or.inl ⟨by rfl, ?_⟩) (by assumption) ?_
  rotate_left; · ((intro w hSw; (try dsimp only at hSw); go_simp) <;> with_reducible rfl)
  simp only [Act.put, List.setIfInBounds_toArray, List.set_cons_zero, List.set_cons_succ]
  refine take_at (i := 17) (d := (some 55)) (v := ?_) rfl rfl (by kernel_rfl) (by kernel_rfl) (by kernel_rfl) (fun _ _ _ h => h) (Or.inl ⟨by rfl, ?_⟩) (by assumption) ?_
  rotate_left; · ((intro w hSw; (try dsimp only at hSw); go_simp) <;> with_reducible rfl)
  simp only [Act.put, List.setIfInBounds_toArray, List.set_cons_zero, List.set_cons_succ]
  refine wpAnyH_ready (rs := [18]) (by kernel_rfl) (by simp) ?_
  refine AllReadyH.cons rfl (fun K hK => ?_) AllReadyH.nil
  go_simp
  go_wp2_with fail
  refine hK.out _ _ (by first | exact (KS _ ((Grew.refl w2).drew)).out | exact (KT _ ((Grew.refl w2).drew) _).out) (fun hHeld => ?_)
  clear hK K
  refine wpAnyH_done (by kernel_rfl) ?_ _
  have H3 := Lib.hid (H2.out.set 3 (.bool false) (by simp))
  have F3 : Hid (Far (fun b => b = q ∨ b = e) w (w2.setCell ⟨q, 3, none⟩ (.bool false))) := Lib.hid (F2.out.setCell (F := fun b => b = q ∨ b = e) (p := ⟨q, 3, none⟩) (.inl rfl) _)
  have L3 := Lib.hid (L2.out.far (Far.one w2 ⟨q, 3, none⟩ (.bool false)) (fun h => hqe h.symm))
  have R3 := Lib.hid (R2.out.far (Far.one w2 ⟨q, 3, none⟩ (.bool false)) hrq)
  have lt3 := H3.out.lt
  have x3 : (w2.setCell ⟨q, 3, none⟩ (.bool false)).cell? ⟨q, 3, none⟩ = some (.bool false) := H3.out.cell 3 _ rfl
  obtain ⟨⟨r0, r1, r2, r3, r4, r5, r6⟩, y0, y1, y2, y3, y4, y5, y6⟩ := At.seven R3.out
  have ltr := R3.out.lt
  have hend : Hid (∀ W', Far (fun b => b = w.heap.size) (w2.setCell ⟨q, 3, none⟩ (.bool false)) W' → PagAt W' q e hb (g.edged c) ∧ Far (fun b => b = q ∨ b = e) w W') := Lib.hid (fun W' f => by
    have hh := HH.out
    refine ⟨⟨?_, L3.out.far f (fun h => hre h.symm), fun x e => (by cases e), hqe, hh.hq, hh.he, Nat.lt_of_lt_of_le hh.hl (Nat.le_trans F3.out.size f.size), HOK.out⟩, F3.out.beyond f (fun x e => .inr (by omega))⟩
    have := H3.out.far f (fun h => hrq h.symm)
    show At W' q [.pointer (some ⟨e, 0, none⟩), .int .i64 g.win, .int .i64 c, .bool (g.meets c), .pointer none]
    have e1 : g.meets c = false := by unfold Pg.meets; rw [hw]; exact decide_eq_false (by show ¬ c - a ≤ g.win; have := HLE.out; omega)
    rw [e1]
    exact this)
  generalize w2.setCell ⟨q, 3, none⟩ (.bool false) = w3 at *
  generalize w.heap.size = r at *
  clear KS KT W2 H2 F2 L2 R2 H3 F3 L3 R3 x1 x2 lt2
  go_wp2_with fail
  refine bodyPost_ret (by simp [results, Try.results19, go_sem, r0, r1, r2, r3, r4, r5, r6]; try rfl) rfl ?_
  refine ⟨?_, hend.out _ ?_⟩
  · rfl
  repeat (first | (with_reducible exact Far.refl _ _) | (with_reducible refine Far.drewF ?_) | (with_reducible refine Far.setCell (F := fun b => b = r) ?_ (p := ⟨r, _, none⟩) rfl _))
set_option maxRecDepth 100000 in
set_option maxHeartbeats 4000000 in
/-- An edge comes: the message that waits is paired with it. -/
theorem pag_edge_met (w : World) (q e hb : Nat) (g : Pg) (c : Int) (h : PagAt w q e hb g) (hc : ¬ c < g.latest) (hm : c ≤ 9223372036854775807) (a : Int) (m : Ms) (hw : g.waits = some (a, m)) (hle : c - a ≤ g.win) :
    Calls Try.prog 19 #[.pointer (some ⟨q, 0, none⟩), .int .i64 c] w fun x w' => x = .returned (.tuple #[pdV (some ⟨c, m⟩), .bool true, .int .i64 0]) ∧ PagAt w' q e hb (g.edged c) ∧ Far (fun b => b = q ∨ b = e) w w' := by
  have HH := Lib.hid h
  have lt := h.at_.lt
  have c0 := h.at_.cell 0 _ rfl
  have c2 := h.at_.cell 2 _ rfl
  have hqe := h.qe
  have kl := h.ok.kl
  have kla := h.ok.last
  have hr0 := At.new w noPdC 38
  have hre : w.heap.size ≠ e := by have := h.log.lt; omega
  have hrq : w.heap.size ≠ q := by omega
  have gV := (Grew.refl w).alloc (.cells #[.int .i64 0, .int .u8 0, .bool false, .int .i64 0, .bool false, .int .i64 0, .bool false] 38)
  have HAdd := Lib.hid (log_AddOk _ e 0 g.L c (h.log.grew gV) ⟨by omega, hm⟩ (by omega))
  have HG := Lib.hid gV
  have HR0 := Lib.hid hr0
  have HOK := Lib.hid (h.ok.edged c (by omega) hm)
  clear hr0
  have HW0 := Lib.hid ((h.wait _ hw).grew gV)
  have hbq := h.hq
  have hbe := h.he
  have kq := h.ok.kq _ hw
  have e1 : IntKind.i64.wrap (c - a) = c - a := IntWalk.i64_in _ (by simp only at kq; omega)
  clear h gV kl kla kq
  generalize g.latest = t at *
  go_enter Try.func19, Try.ntmps19
  go_upto_region 6 with (go_at_call 27; refine HAdd.out.mono ?_; rintro x w1 ⟨rfl, l1, f1⟩)
  have H1 := Lib.hid ((HH.out.at_.grew HG.out).far f1 hqe)
  have F1 := Lib.hid (Far.of_grew (F := fun b => b = q ∨ b = e) HG.out |>.trans (f1.mono (fun _ _ h => .inr h)))
  have L1 := Lib.hid l1
  have R1 := Lib.hid (HR0.out.far f1 hre)
  have W1 := Lib.hid (HW0.out.far f1 hbe)
  have d4 := H1.out.cell 4 _ rfl
  rw [hw] at d4
  unfold waitV at d4
  have d0 := H1.out.cell 0 _ rfl
  have d1 := H1.out.cell 1 _ rfl
  have d2 := H1.out.cell 2 _ rfl
  have d3 := H1.out.cell 3 _ rfl
  have z2 := H1.out.fz 2
  have z3 := H1.out.fz 3
  have z4 := H1.out.fz 4
  have lt1 := H1.out.lt
  clear f1 l1 HAdd c0 c2
  go_upto_region 8 with fail
  generalize hV2 : (w1.setCell _ _).setCell _ _ = w2
  have H2 : Hid (At w2 q [.pointer (some ⟨e, 0, none⟩), .int .i64 g.win, .int .i64 c, .bool g.taken, .pointer none]) := Lib.hid (by
    rw [← hV2]
    have := (H1.out.set 2 (.int .i64 c) (by simp)).set 4 (.pointer none) (by simp)
    exact this)
  have F2 : Hid (Far (fun b => b = q ∨ b = e) w w2) := Lib.hid (by
    rw [← hV2]
    exact Far.setCell (F := fun b => b = q ∨ b = e) (Far.setCell (F := fun b => b = q ∨ b = e) F1.out (p := ⟨q, 2, none⟩) (.inl rfl) _) (p := ⟨q, 4, none⟩) (.inl rfl) _)
  have L2 : Hid (LogR w2 e 0 (pushE g.L c)) := Lib.hid (by
    rw [← hV2]
    exact (L1.out.far (Far.one w1 ⟨q, 2, none⟩ (.int .i64 c)) (fun h => hqe h.symm)).far (Far.one _ ⟨q, 4, none⟩ (.pointer none)) (fun h => hqe h.symm))
  have R2 : Hid (At w2 w.heap.size noPdC) := Lib.hid (by
    rw [← hV2]
    exact (R1.out.far (Far.one w1 ⟨q, 2, none⟩ (.int .i64 c)) hrq).far (Far.one _ ⟨q, 4, none⟩ (.pointer none)) hrq)
  have W2 : Hid (At w2 hb (waitC (a, m))) := Lib.hid (by
    rw [← hV2]
    exact (W1.out.far (Far.one w1 ⟨q, 2, none⟩ (.int .i64 c)) hbq).far (Far.one _ ⟨q, 4, none⟩ (.pointer none)) hbq)
  have KS : ∀ w', Grew w2 w' → Hid (w'.cell? ⟨hb, 0, none⟩ = some (.int .i64 a) ∧ w'.cell? ⟨q, 1, none⟩ = some (.int .i64 g.win)) := fun w' k => Lib.hid ⟨(W2.out.grew k).cell 0 _ rfl, (H2.out.grew k).cell 1 _ rfl⟩
  have KT : ∀ w', Grew w2 w' → ∀ u, Hid ((w'.setCell ⟨q, 3, none⟩ u).cell? ⟨hb, 0, none⟩ = some (.int .i64 a) ∧ (w'.setCell ⟨q, 3, none⟩ u).cell? ⟨q, 1, none⟩ = some (.int .i64 g.win)) := fun w' k u => Lib.hid ⟨((W2.out.grew k).far (Far.one w' ⟨q, 3, none⟩ u) hbq).cell 0 _ rfl, ((H2.out.grew k).set 3 u (by simp)).cell 1 _ rfl⟩
  clear H1 F1 L1 R1 W1 HR0 HW0 d0 d1 d2 d3 d4 z2 z3 z4 lt1 hV2
  have lt2 := H2.out.lt
  have x1 := H2.out.cell 3 _ rfl
  have x2 := H2.out.fz 3
  refine wp_region_held_drew (S := (fun w' => w'.cell? ⟨hb, 0, none⟩ = some (.int .i64 a) ∧ w'.cell? ⟨q, 1, none⟩ = some (.int .i64 g.win))) (by kernel_rfl) (by first | exact (KS _ ((Grew.refl w2).drew)).out | exact (KT _ ((Grew.refl w2).drew) _).out) (fun hHeld => ?_)
  refine take_at (i := 0) (d := (some 38)) (v := ?_) rfl rfl (by kernel_rfl) (by kernel_rfl) (by kernel_rfl) (fun _ _ _ h => h) (Or.inl ⟨by rfl, ?_⟩) (by assumption) ?_
  rotate_left; · ((intro w hSw; (try dsimp only at hSw); go_simp) <;> with_reducible rfl)
  simp only [Act.put, List.setIfInBounds_toArray, List.set_cons_zero, List.set_cons_succ]
  refine take_at (i := 1) (d := (some 39)) (v := ?_) rfl rfl (by kernel_rfl) (by kernel_rfl) (by kernel_rfl) (fun _ _ _ h => h) (Or.inl ⟨by rfl, ?_⟩) (by assumption) ?_
  rotate_left; · ((intro w hSw; (try dsimp only at hSw); go_simp) <;> with_reducible rfl)
  simp only [Act.put, List.setIfInBounds_toArray, List.set_cons_zero, List.set_cons_succ]
  refine take_at (i := 2) (d := (some 40)) (v := ?_) rfl rfl (by kernel_rfl) (by kernel_rfl) (by kernel_rfl) (fun _ _ _ h => h) (Or.inl ⟨by rfl, ?_⟩) (by assumption) ?_
  rotate_left; · ((intro w hSw; (try dsimp only at hSw); go_simp) <;> with_reducible rfl)
  simp only [Act.put, List.setIfInBounds_toArray, List.set_cons_zero, List.set_cons_succ]
  refine take_at (i := 3) (d := (some 41)) (v := ?_) rfl rfl (by kernel_rfl) (by kernel_rfl) (by kernel_rfl) (fun _ _ _ h => h) (Or.inl ⟨by rfl, ?_⟩) (by assumption) ?_
  rotate_left; · ((intro w hSw; (try dsimp only at hSw); go_simp) <;> with_reducible rfl)
  simp only [Act.put, List.setIfInBounds_toArray, List.set_cons_zero, List.set_cons_succ]
  refine take_at (i := 4) (d := (some 42)) (v := ?_) rfl rfl (by kernel_rfl) (by kernel_rfl) (by kernel_rfl) (fun _ _ _ h => h) (Or.inl ⟨by rfl, ?_⟩) (by assumption) ?_
  rotate_left; · ((intro w hSw; (try dsimp only at hSw); go_simp) <;> with_reducible rfl)
  simp only [Act.put, List.setIfInBounds_toArray, List.set_cons_zero, List.set_cons_succ]
  refine take_at (i := 5) (d := (some 43)) (v := ?_) rfl rfl (by kernel_rfl) (by kernel_rfl) (by kernel_rfl) (fun _ _ _ h => h) (Or.inl ⟨by rfl, ?_⟩) (by assumption) ?_
  rotate_left; · ((intro w hSw; (try dsimp only at hSw); go_simp) <;> with_reducible rfl)
  simp only [Act.put, List.setIfInBounds_toArray, List.set_cons_zero, List.set_cons_succ]
  refine take_at (i := 6) (d := (some 44)) (v := ?_) rfl rfl (by kernel_rfl) (by kernel_rfl) (by kernel_rfl) (fun _ _ _ h => h) (Or.inl ⟨by rfl, ?_⟩) (by assumption) ?_
  rotate_left; · ((intro w hSw; (try dsimp only at hSw); go_simp) <;> with_reducible rfl)
  simp only [Act.put, List.setIfInBounds_toArray, List.set_cons_zero, List.set_cons_succ]
  refine take_at (i := 7) (d := (some 45)) (v := ?_) rfl rfl (by kernel_rfl) (by kernel_rfl) (by kernel_rfl) (fun _ _ _ h => h) (Or.inl ⟨by rfl, ?_⟩) (by assumption) ?_
  rotate_left; · ((intro w hSw; (try dsimp only at hSw); go_simp) <;> with_reducible rfl)
  simp only [Act.put, List.setIfInBounds_toArray, List.set_cons_zero, List.set_cons_succ]
  refine take_at (i := 8) (d := (some 46)) (v := ?_) rfl rfl (by kernel_rfl) (by kernel_rfl) (by kernel_rfl) (fun _ _ _ h => h) (Or.inl ⟨by rfl, ?_⟩) (by assumption) ?_
  rotate_left; · ((intro w hSw; (try dsimp only at hSw); go_simp) <;> with_reducible rfl)
  simp only [Act.put, List.setIfInBounds_toArray, List.set_cons_zero, List.set_cons_succ]
  refine take_at (i := 9) (d := (some 47)) (v := ?_) rfl rfl (by kernel_rfl) (by kernel_rfl) (by kernel_rfl) (fun _ _ _ h => h) (Or.inl ⟨by rfl, ?_⟩) (by assumption) ?_
  rotate_left; · ((intro w hSw; (try dsimp only at hSw); go_simp) <;> with_reducible rfl)
  simp only [Act.put, List.setIfInBounds_toArray, List.set_cons_zero, List.set_cons_succ]
  refine take_at (i := 10) (d := (some 48)) (v := ?_) rfl rfl (by kernel_rfl) (by kernel_rfl) (by kernel_rfl) (fun _ _ _ h => h) (Or.inl ⟨by rfl, ?_⟩) (by assumption) ?_
  rotate_left; · ((intro w hSw; (try dsimp only at hSw); go_simp) <;> with_reducible rfl)
  simp only [Act.put, List.setIfInBounds_toArray, List.set_cons_zero, List.set_cons_succ]
  refine take_at (i := 11) (d := (some 49)) (v := ?_) rfl rfl (by kernel_rfl) (by kernel_rfl) (by kernel_rfl) (fun _ _ _ h => h) (Or.inl ⟨by rfl, ?_⟩) (by assumption) ?_
  rotate_left; · ((intro w hSw; (try dsimp only at hSw); go_simp) <;> with_reducible rfl)
  simp only [Act.put, List.setIfInBounds_toArray, List.set_cons_zero, List.set_cons_succ]
  refine take_at (i := 12) (d := (some 50)) (v := ?_) rfl rfl (by kernel_rfl) (by kernel_rfl) (by kernel_rfl) (fun _ _ _ h => h) (Or.inl ⟨by rfl, ?_⟩) (by assumption) ?_
  rotate_left; · ((intro w hSw; (try dsimp only at hSw); go_simp) <;> with_reducible rfl)
  simp only [Act.put, List.setIfInBounds_toArray, List.set_cons_zero, List.set_cons_succ]
  refine take_at (i := 13) (d := (some 51)) (v := ?_) rfl rfl (by kernel_rfl) (by kernel_rfl) (by kernel_rfl) (fun _ _ _ h => h) (Or.inl ⟨by rfl, ?_⟩) (by assumption) ?_
  rotate_left; · ((intro w hSw; (try dsimp only at hSw); go_simp) <;> with_reducible rfl)
  simp only [Act.put, List.setIfInBounds_toArray, List.set_cons_zero, List.set_cons_succ]
  refine take_at (i := 14) (d := (some 52)) (v := ?_) rfl rfl (by kernel_rfl) (by kernel_rfl) (by kernel_rfl) (fun _ _ _ h => h) (Or.inl ⟨by rfl, ?_⟩) (by assumption) ?_
  rotate_left; · ((intro w hSw; (try dsimp only at hSw); go_simp) <;> with_reducible rfl)
  simp only [Act.put, List.setIfInBounds_toArray, List.set_cons_zero, List.set_cons_succ]
  refine take_at (i := 15) (d := (some 53)) (v := ?_) rfl rfl (by kernel_rfl) (by kernel_rfl) (by kernel_rfl) (fun _ _ _ h => h) (Or.inl ⟨by rfl, ?_⟩) (by assumption) ?_
  rotate_left; · ((intro w hSw; (try dsimp only at hSw); go_simp) <;> with_reducible rfl)
  simp only [Act.put, List.setIfInBounds_toArray, List.set_cons_zero, List.set_cons_succ]
  refine take_at (i := 16) (d := (some 54)) (v := ?_) rfl rfl (by kernel_rfl) (by kernel_rfl) (by kernel_rfl) (fun _ _ _ h => h) (Or.inl ⟨by rfl, ?_⟩) (by assumption) ?_
  rotate_left; · ((intro w hSw; (try dsimp only at hSw); go_simp) <;> with_reducible rfl)
  simp only [Act.put, List.setIfInBounds_toArray, List.set_cons_zero, List.set_cons_succ]
  refine take_at (i := 17) (d := (some 55)) (v := ?_) rfl rfl (by kernel_rfl) (by kernel_rfl) (by kernel_rfl) (fun _ _ _ h => h) (Or.inl ⟨by rfl, ?_⟩) (by assumption) ?_
  rotate_left; · ((intro w hSw; (try dsimp only at hSw); go_simp) <;> with_reducible rfl)
  simp only [Act.put, List.setIfInBounds_toArray, List.set_cons_zero, List.set_cons_succ]
  refine wpAnyH_ready (rs := [18]) (by kernel_rfl) (by simp) ?_
  refine AllReadyH.cons rfl (fun K hK => ?_) AllReadyH.nil
  go_simp
  go_wp2_with fail
  refine hK.out _ _ (by first | exact (KS _ ((Grew.refl w2).drew)).out | exact (KT _ ((Grew.refl w2).drew) _).out) (fun hHeld => ?_)
  clear hK K
  refine wpAnyH_done (by kernel_rfl) ?_ _
  have H3 := Lib.hid (H2.out.set 3 (.bool true) (by simp))
  have F3 : Hid (Far (fun b => b = q ∨ b = e) w (w2.setCell ⟨q, 3, none⟩ (.bool true))) := Lib.hid (F2.out.setCell (F := fun b => b = q ∨ b = e) (p := ⟨q, 3, none⟩) (.inl rfl) _)
  have L3 := Lib.hid (L2.out.far (Far.one w2 ⟨q, 3, none⟩ (.bool true)) (fun h => hqe h.symm))
  have R3 := Lib.hid (R2.out.far (Far.one w2 ⟨q, 3, none⟩ (.bool true)) hrq)
  have lt3 := H3.out.lt
  have x3 : (w2.setCell ⟨q, 3, none⟩ (.bool true)).cell? ⟨q, 3, none⟩ = some (.bool true) := H3.out.cell 3 _ rfl
  obtain ⟨⟨r0, r1, r2, r3, r4, r5, r6⟩, y0, y1, y2, y3, y4, y5, y6⟩ := At.seven R3.out
  have ltr := R3.out.lt
  have W3 := Lib.hid (W2.out.far (Far.one w2 ⟨q, 3, none⟩ (.bool true)) hbq)
  obtain ⟨⟨v0, v1, v2, v3, v4, v5, v6⟩, -⟩ := At.seven W3.out
  have ltw := W3.out.lt
  have hend : Hid (∀ W', Far (fun b => b = w.heap.size) (w2.setCell ⟨q, 3, none⟩ (.bool true)) W' → PagAt W' q e hb (g.edged c) ∧ Far (fun b => b = q ∨ b = e) w W') := Lib.hid (fun W' f => by
    have hh := HH.out
    refine ⟨⟨?_, L3.out.far f (fun h => hre h.symm), fun x e => (by cases e), hqe, hh.hq, hh.he, Nat.lt_of_lt_of_le hh.hl (Nat.le_trans F3.out.size f.size), HOK.out⟩, F3.out.beyond f (fun x e => .inr (by omega))⟩
    have := H3.out.far f (fun h => hrq h.symm)
    show At W' q [.pointer (some ⟨e, 0, none⟩), .int .i64 g.win, .int .i64 c, .bool (g.meets c), .pointer none]
    have e1 : g.meets c = true := by unfold Pg.meets; rw [hw]; exact decide_eq_true hle
    rw [e1]
    exact this)
  generalize w2.setCell ⟨q, 3, none⟩ (.bool true) = w3 at *
  generalize w.heap.size = r at *
  clear KS KT W2 W3 H2 F2 L2 R2 H3 F3 L3 R3 x1 x2 lt2
  go_wp2_with fail
  refine bodyPost_ret (by simp [results, Try.results19, go_sem, r0, r1, r2, r3, r4, r5, r6]; try rfl) rfl ?_
  refine ⟨?_, hend.out _ ?_⟩
  · rfl
  repeat (first | (with_reducible exact Far.refl _ _) | (with_reducible refine Far.drewF ?_) | (with_reducible refine Far.setCell (F := fun b => b = r) ?_ (p := ⟨r, _, none⟩) rfl _))
/-- What becomes of a pairing: new blocks aside, its two blocks are written. -/
theorem pag_edge (w : World) (q e hb : Nat) (g : Pg) (c : Int) (h : PagAt w q e hb g) (hm : c ≤ 9223372036854775807) :
    Calls Try.prog 19 #[.pointer (some ⟨q, 0, none⟩), .int .i64 c] w fun x w' => x = .returned (.tuple #[pdV (g.edgeP c), .bool (g.edgeP c).isSome, .int .i64 (if c < g.latest then 2 else 0)]) ∧ PagAt w' q e hb (g.edge c) ∧ Far (fun b => b = q ∨ b = e) w w' := by
  unfold Pg.edgeP Pg.edge
  by_cases hc : c < g.latest
  · rw [if_pos hc, if_pos hc, if_pos hc]
    exact (pag_edge_old w q e hb g c h hc).mono fun _ _ ⟨x, k⟩ => ⟨x, h.grew k, Far.of_grew k⟩
  · rw [if_neg hc, if_neg hc, if_neg hc]
    cases hw : g.waits with
    | none =>
      rw [show g.meets c = false by unfold Pg.meets; rw [hw]]
      exact pag_edge_none w q e hb g c h hc hm hw
    | some y =>
      obtain ⟨a, m⟩ := y
      by_cases hle : c - a ≤ g.win
      · rw [show g.meets c = true by unfold Pg.meets; rw [hw]; exact decide_eq_true hle]
        exact pag_edge_met w q e hb g c h hc hm a m hw hle
      · rw [show g.meets c = false by unfold Pg.meets; rw [hw]; exact decide_eq_false hle]
        exact pag_edge_late w q e hb g c h hc hm a m hw hle
end Go.Proofs.Ytkijonnbngnliaa
