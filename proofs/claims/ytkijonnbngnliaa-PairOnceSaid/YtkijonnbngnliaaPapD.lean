/-
  The program's pairing: a message comes.
-/
import Derived.Test.YtkijonnbngnliaaPapB
namespace Go.Proofs.Ytkijonnbngnliaa
open Go.RowKit
set_option linter.unusedVariables false

/-- The cells of a message. -/
def msC (x : Ms) : List Value := [.int .u8 x.kind, .bool x.utc, .int .i64 x.sec, .bool x.leap, .int .i64 x.cycle, .bool x.next]
theorem At.six {w : World} {r : Nat} {a0 a1 a2 a3 a4 a5 : Value} (h : At w r [a0, a1, a2, a3, a4, a5]) :
    w.cell? ⟨r, 0, none⟩ = some a0 ∧ w.cell? ⟨r, 1, none⟩ = some a1 ∧ w.cell? ⟨r, 2, none⟩ = some a2 ∧ w.cell? ⟨r, 3, none⟩ = some a3 ∧ w.cell? ⟨r, 4, none⟩ = some a4 ∧ w.cell? ⟨r, 5, none⟩ = some a5 :=
  ⟨h.cell 0 _ rfl, h.cell 1 _ rfl, h.cell 2 _ rfl, h.cell 3 _ rfl, h.cell 4 _ rfl, h.cell 5 _ rfl⟩
/-- Behind the counter that a message came at. -/
structure MsgW (w V : World) (q e hb : Nat) (g : Pg) (m : Int) (x : Ms) : Prop where
  at_ : At V q [.pointer (some ⟨e, 0, none⟩), .int .i64 g.win, .int .i64 m, .bool g.taken, waitV hb g.waits]
  log : LogR V e 0 g.L
  box : At V w.heap.size (msC x)
  res : At V (w.heap.size + 1) noPdC
  far : Far (fun b => b = q ∨ b = e) w V
  wait : ∀ y, g.waits = some y → At V hb (waitC y)
  size : V.heap.size = w.heap.size + 2
theorem msg_world {w : World} {q e hb : Nat} {g : Pg} (h : PagAt w q e hb g) (m : Int) (x : Ms) (T1 T2 : TypeId) : MsgW w (((w.setCell ⟨q, 2, none⟩ (.int .i64 m)).alloc (.cells (msC x).toArray T1)).alloc (.cells noPdC.toArray T2)) q e hb g m x := by
  have s1 : (w.setCell ⟨q, 2, none⟩ (.int .i64 m)).heap.size = w.heap.size := by simp [World.setCell]
  have F1 := Far.one w ⟨q, 2, none⟩ (.int .i64 m)
  have G2 := ((Grew.refl (w.setCell ⟨q, 2, none⟩ (.int .i64 m))).alloc (.cells (msC x).toArray T1)).alloc (.cells noPdC.toArray T2)
  refine ⟨(h.at_.set 2 (.int .i64 m) (by simp)).grew G2, (h.log.far F1 (fun e => h.qe e.symm)).grew G2, ?_, ?_, (F1.mono (fun k _ e => .inl e)).trans (Far.of_grew G2), fun y hy => ((h.wait y hy).far F1 h.hq).grew G2, by simp [s1]⟩
  · have := At.new (w.setCell ⟨q, 2, none⟩ (.int .i64 m)) (msC x) T1
    rw [s1] at this
    exact this.grew ((Grew.refl _).alloc _)
  · have := At.new ((w.setCell ⟨q, 2, none⟩ (.int .i64 m)).alloc (.cells (msC x).toArray T1)) noPdC T2
    simpa [s1] using this
/-- What a message leaves and tells. -/
def MsgTold (g : Pg) (m : Int) (x : Ms) (q e hb : Nat) (w : World) (y : Ending) (w' : World) : Prop :=
  ∃ hb', y = .returned (.tuple #[pdV (g.msgP m x), .bool (g.msgP m x).isSome]) ∧ PagAt w' q e hb' (g.msg m x) ∧ (hb' = hb ∨ w.heap.size ≤ hb') ∧ Far (fun b => b = q ∨ b = e) w w'
set_option maxRecDepth 100000 in
set_option maxHeartbeats 4000000 in
/-- The message is refused. -/
theorem pag_msg_old (w : World) (q e hb : Nat) (g : Pg) (m : Int) (x : Ms) (h : PagAt w q e hb g) (hc : m < g.latest) :
    Calls Try.prog 20 #[.pointer (some ⟨q, 0, none⟩), .int .i64 m, x.value] w (MsgTold g m x q e hb w) := by
  have HT : Hid (∀ w', Grew w w' → MsgTold g m x q e hb w (.returned (.tuple #[pdV none, .bool false])) w') := Lib.hid (fun w' k => by
    refine ⟨hb, ?_, ?_, .inl rfl, Far.of_grew k⟩
    · unfold Pg.msgP; rw [if_pos hc]; rfl
    · unfold Pg.msg; rw [if_pos hc]; exact h.grew k)
  have lt := h.at_.lt
  have c2 := h.at_.cell 2 _ rfl
  unfold Ms.value
  clear h
  generalize g.latest = t at *
  go_enter Try.func20, Try.ntmps20
  go_wp2_with fail
  refine bodyPost_ret (by simp [results, Try.results20, go_sem]; try rfl) rfl ?_
  exact HT.out _ (((Grew.refl w).alloc _).alloc _)
set_option maxRecDepth 100000 in
set_option maxHeartbeats 4000000 in
/-- A message that is Next waits. -/
theorem pag_msg_next (w : World) (q e hb : Nat) (g : Pg) (m : Int) (x : Ms) (h : PagAt w q e hb g) (hc : ¬ m < g.latest) (hm : m ≤ 9223372036854775807) (hx : x.next = true) :
    Calls Try.prog 20 #[.pointer (some ⟨q, 0, none⟩), .int .i64 m, x.value] w (MsgTold g m x q e hb w) := by
  have HH := Lib.hid h
  have HOK := Lib.hid (h.ok.msg m x hm)
  have hrq : w.heap.size ≠ q := by have := h.at_.lt; omega
  have hre : w.heap.size ≠ e := by have := h.log.lt; omega
  have lt := h.at_.lt
  have lte := h.log.lt
  have c2 := h.at_.cell 2 _ rfl
  have f2 := h.at_.fz 2
  have hqe := h.qe
  have hre1 : w.heap.size + 1 ≠ e := by omega
  have hrq1 : w.heap.size + 1 ≠ q := by omega
  obtain ⟨k, u, sc, l, cy, n⟩ := x
  obtain rfl : n = true := hx
  unfold Ms.value
  clear h
  have hc' := Lib.hid hc
  generalize g.latest = t at c2 hc
  go_enter Try.func20, Try.ntmps20
  go_upto_region 4 with fail
  generalize hV : World.alloc (World.alloc _ _) _ = V
  have HW : Hid (MsgW w V q e hb g m ⟨k, u, sc, l, cy, true⟩) := Lib.hid (by rw [← hV]; exact msg_world HH.out m ⟨k, u, sc, l, cy, true⟩ _ _)
  obtain ⟨b0, b1, b2, b3, b4, b5⟩ := At.six HW.out.box
  have d4 := HW.out.at_.cell 4 _ rfl
  have z4 := HW.out.at_.fz 4
  have ltV := HW.out.at_.lt
  have ltB := HW.out.box.lt
  clear hV
  go_upto_region 6 with fail
  generalize hV2 : World.alloc (V.setCell _ _) _ = V2
  have s2 : (V.setCell ⟨q, 4, none⟩ (.pointer (some ⟨V.heap.size, 0, none⟩))).heap.size = V.heap.size := by simp [World.setCell]
  have F2 : Far (fun b => b = q) V V2 := by
    rw [← hV2]
    exact (Far.one V ⟨q, 4, none⟩ _).trans (Far.of_grew ((Grew.refl _).alloc _))
  have HB : At V2 V.heap.size (waitC (m, ⟨k, u, sc, l, cy, true⟩)) := by
    rw [← hV2]
    have := At.new (V.setCell ⟨q, 4, none⟩ (.pointer (some ⟨V.heap.size, 0, none⟩))) (waitC (m, ⟨k, u, sc, l, cy, true⟩)) 68
    rw [s2] at this
    exact this
  have HQ : At V2 q [.pointer (some ⟨e, 0, none⟩), .int .i64 g.win, .int .i64 m, .bool g.taken, .pointer (some ⟨V.heap.size, 0, none⟩)] := by
    rw [← hV2]
    exact (HW.out.at_.set 4 _ (by simp)).grew ((Grew.refl _).alloc _)
  have HR := HW.out.res.far F2 hrq1
  have HLg := HW.out.log.far F2 (fun e => hqe e.symm)
  have sz := HW.out.size
  have hend : Hid (∀ W', Far (fun b => b = w.heap.size + 1) V2 W' → MsgTold g m ⟨k, u, sc, l, cy, true⟩ q e hb w (.returned (.tuple #[pdV none, .bool false])) W') := Lib.hid (fun W' f => by
    refine ⟨V.heap.size, ?_, ⟨?_, ?_, ?_, hqe, by omega, by omega, by have := HB.lt; have := f.size; omega, HOK.out⟩, .inr (by omega), ((HW.out.far.trans (F2.mono (fun _ _ e => .inl e))).beyond f (fun x e => .inr (by omega)))⟩
    · unfold Pg.msgP; rw [if_neg hc'.out]; rfl
    · have := HQ.far f (fun h => hrq1 h.symm)
      unfold Pg.msg
      rw [if_neg hc'.out]
      exact this
    · have := HLg.far f (fun h => hre1 h.symm)
      unfold Pg.msg
      rw [if_neg hc'.out]
      exact this
    · intro y hy
      unfold Pg.msg at hy
      rw [if_neg hc'.out] at hy
      cases hy
      exact HB.far f (by omega))
  obtain ⟨⟨r0, r1, r2, r3, r4, r5, r6⟩, y0, y1, y2, y3, y4, y5, y6⟩ := At.seven HR
  have ltr := HR.lt
  clear F2 HB HQ HR HLg hV2 s2 sz
  generalize w.heap.size + 1 = r at *
  go_wp2_with fail
  refine bodyPost_ret (by simp [results, Try.results20, go_sem, r0, r1, r2, r3, r4, r5, r6]; try rfl) rfl ?_
  refine hend.out _ ?_
  repeat (first | (with_reducible exact Far.refl _ _) | (with_reducible refine Far.drewF ?_) | (with_reducible refine Far.setCell (F := fun b => b = r) ?_ (p := ⟨r, _, none⟩) rfl _))
set_option maxRecDepth 100000 in
set_option maxHeartbeats 4000000 in
/-- The last edge is in a pair. -/
theorem pag_msg_taken (w : World) (q e hb : Nat) (g : Pg) (m : Int) (x : Ms) (h : PagAt w q e hb g) (hc : ¬ m < g.latest) (hm : m ≤ 9223372036854775807) (hx : x.next = false) (ht : g.taken = true) :
    Calls Try.prog 20 #[.pointer (some ⟨q, 0, none⟩), .int .i64 m, x.value] w (MsgTold g m x q e hb w) := by
  have HH := Lib.hid h
  have HOK := Lib.hid (h.ok.msg m x hm)
  have hrq : w.heap.size ≠ q := by have := h.at_.lt; omega
  have hre : w.heap.size ≠ e := by have := h.log.lt; omega
  have lt := h.at_.lt
  have lte := h.log.lt
  have c2 := h.at_.cell 2 _ rfl
  have f2 := h.at_.fz 2
  have hqe := h.qe
  have hre1 : w.heap.size + 1 ≠ e := by omega
  have hrq1 : w.heap.size + 1 ≠ q := by omega
  obtain ⟨k, u, sc, l, cy, n⟩ := x
  obtain rfl : n = false := hx
  unfold Ms.value
  clear h
  have hc' := Lib.hid hc
  generalize g.latest = t at c2 hc
  go_enter Try.func20, Try.ntmps20
  go_upto_region 4 with fail
  generalize hV : World.alloc (World.alloc _ _) _ = V
  have HW : Hid (MsgW w V q e hb g m ⟨k, u, sc, l, cy, false⟩) := Lib.hid (by rw [← hV]; exact msg_world HH.out m ⟨k, u, sc, l, cy, false⟩ _ _)
  obtain ⟨b0, b1, b2, b3, b4, b5⟩ := At.six HW.out.box
  have d0 := HW.out.at_.cell 0 _ rfl
  have d1 := HW.out.at_.cell 1 _ rfl
  have d3 := HW.out.at_.cell 3 _ rfl
  have ltV := HW.out.at_.lt
  have ltB := HW.out.box.lt
  rw [ht] at d3
  have hend : Hid (∀ V2 W', Grew V V2 → Far (fun b => b = w.heap.size + 1) V2 W' → MsgTold g m ⟨k, u, sc, l, cy, false⟩ q e hb w (.returned (.tuple #[pdV none, .bool false])) W') := Lib.hid (fun V2 W' gr f => by
    have e1 : g.free m = false := by unfold Pg.free; rw [ht]; rfl
    have sz := HW.out.size
    have FF : Far (fun b => b = w.heap.size + 1) V W' := (Far.of_grew gr).trans f
    refine ⟨hb, ?_, ⟨?_, ?_, ?_, hqe, HH.out.hq, HH.out.he, by have := HH.out.hl; have := HW.out.far.size; have := FF.size; omega, HOK.out⟩, .inl rfl, (HW.out.far.beyond FF (fun x e => .inr (by omega)))⟩
    · unfold Pg.msgP; rw [if_neg hc'.out, e1]; rfl
    · have := HW.out.at_.far FF (fun h => hrq1 h.symm)
      unfold Pg.msg
      rw [if_neg hc'.out, e1, ht]
      rw [ht] at this
      exact this
    · have := HW.out.log.far FF (fun h => hre1 h.symm)
      unfold Pg.msg
      rw [if_neg hc'.out]
      exact this
    · intro y hy
      unfold Pg.msg at hy
      rw [if_neg hc'.out] at hy
      have hb1 := (HH.out.wait y hy).lt
      exact (HW.out.wait y hy).far FF (by omega))
  have HR := Lib.hid HW.out.res
  clear hV
  go_upto_region 7 with fail
  go_quiet (fail)
  go_upto_region 8 with fail
  have gr : Grew V (V.drewN nq) := (Grew.refl V).drewN nq
  generalize V.drewN nq = V2 at gr ⊢
  have HRV := HR.out.grew gr
  have hend2 : Hid (∀ W', Far (fun b => b = w.heap.size + 1) V2 W' → MsgTold g m ⟨k, u, sc, l, cy, false⟩ q e hb w (.returned (.tuple #[pdV none, .bool false])) W') := Lib.hid (fun W' f => hend.out V2 W' gr f)
  obtain ⟨⟨r0, r1, r2, r3, r4, r5, r6⟩, y0, y1, y2, y3, y4, y5, y6⟩ := At.seven HRV
  have ltr := HRV.lt
  clear gr HRV hend HR HW
  generalize w.heap.size + 1 = r at *
  go_wp2_with fail
  refine bodyPost_ret (by simp [results, Try.results20, go_sem, r0, r1, r2, r3, r4, r5, r6]; try rfl) rfl ?_
  refine hend2.out _ ?_
  repeat (first | (with_reducible exact Far.refl _ _) | (with_reducible refine Far.drewF ?_) | (with_reducible refine Far.setCell (F := fun b => b = r) ?_ (p := ⟨r, _, none⟩) rfl _))
set_option maxRecDepth 100000 in
set_option maxHeartbeats 4000000 in
/-- Not one edge alone is within the window. -/
theorem pag_msg_many (w : World) (q e hb : Nat) (g : Pg) (m : Int) (x : Ms) (h : PagAt w q e hb g) (hc : ¬ m < g.latest) (hm : m ≤ 9223372036854775807) (hx : x.next = false) (ht : g.taken = false) (hn : cntE g.L (m - g.win) m g.L.length ≠ 1) :
    Calls Try.prog 20 #[.pointer (some ⟨q, 0, none⟩), .int .i64 m, x.value] w (MsgTold g m x q e hb w) := by
  have HH := Lib.hid h
  have HOK := Lib.hid (h.ok.msg m x hm)
  have hrq : w.heap.size ≠ q := by have := h.at_.lt; omega
  have hre : w.heap.size ≠ e := by have := h.log.lt; omega
  have lt := h.at_.lt
  have lte := h.log.lt
  have c2 := h.at_.cell 2 _ rfl
  have f2 := h.at_.fz 2
  have hqe := h.qe
  have hre1 : w.heap.size + 1 ≠ e := by omega
  have hrq1 : w.heap.size + 1 ≠ q := by omega
  obtain ⟨k, u, sc, l, cy, n⟩ := x
  obtain rfl : n = false := hx
  unfold Ms.value
  clear h
  have hc' := Lib.hid hc
  generalize g.latest = t at c2 hc
  go_enter Try.func20, Try.ntmps20
  go_upto_region 4 with fail
  generalize hV : World.alloc (World.alloc _ _) _ = V
  have HW : Hid (MsgW w V q e hb g m ⟨k, u, sc, l, cy, false⟩) := Lib.hid (by rw [← hV]; exact msg_world HH.out m ⟨k, u, sc, l, cy, false⟩ _ _)
  obtain ⟨b0, b1, b2, b3, b4, b5⟩ := At.six HW.out.box
  have d0 := HW.out.at_.cell 0 _ rfl
  have d1 := HW.out.at_.cell 1 _ rfl
  have d3 := HW.out.at_.cell 3 _ rfl
  have ltV := HW.out.at_.lt
  have ltB := HW.out.box.lt
  rw [ht] at d3
  have hend : Hid (∀ V2 W', Grew V V2 → Far (fun b => b = w.heap.size + 1) V2 W' → MsgTold g m ⟨k, u, sc, l, cy, false⟩ q e hb w (.returned (.tuple #[pdV none, .bool false])) W') := Lib.hid (fun V2 W' gr f => by
    have e1 : g.free m = false := by unfold Pg.free; rw [decide_eq_false hn]; simp
    have sz := HW.out.size
    have FF : Far (fun b => b = w.heap.size + 1) V W' := (Far.of_grew gr).trans f
    refine ⟨hb, ?_, ⟨?_, ?_, ?_, hqe, HH.out.hq, HH.out.he, by have := HH.out.hl; have := HW.out.far.size; have := FF.size; omega, HOK.out⟩, .inl rfl, (HW.out.far.beyond FF (fun x e => .inr (by omega)))⟩
    · unfold Pg.msgP; rw [if_neg hc'.out, e1]; rfl
    · have := HW.out.at_.far FF (fun h => hrq1 h.symm)
      unfold Pg.msg
      rw [if_neg hc'.out, e1, ht]
      rw [ht] at this
      exact this
    · have := HW.out.log.far FF (fun h => hre1 h.symm)
      unfold Pg.msg
      rw [if_neg hc'.out]
      exact this
    · intro y hy
      unfold Pg.msg at hy
      rw [if_neg hc'.out] at hy
      have hb1 := (HH.out.wait y hy).lt
      exact (HW.out.wait y hy).far FF (by omega))
  have HR := Lib.hid HW.out.res
  have HC := fun w' (G : Grew V w') => Lib.hid (log_Count w' e 0 g.L (m - g.win) m (HW.out.log.grew G))
  have KS : ∀ w', Grew V w' → Hid (w'.cell? ⟨q, 0, none⟩ = some (.pointer (some ⟨e, 0, none⟩)) ∧ w'.cell? ⟨q, 1, none⟩ = some (.int .i64 g.win) ∧ w'.cell? ⟨q, 3, none⟩ = some (.bool false)) := fun w' G => Lib.hid ⟨(HW.out.at_.grew G).cell 0 _ rfl, (HW.out.at_.grew G).cell 1 _ rfl, by have := (HW.out.at_.grew G).cell 3 _ rfl; rw [ht] at this; exact this⟩
  have e1 : IntKind.i64.wrap (m - g.win) = m - g.win := IntWalk.i64_in _ (by have := HH.out.ok.kw; have := HH.out.ok.kl; have := hc'.out; omega)
  obtain ⟨N, HN⟩ : ∃ N : Nat, Hid (cntE g.L (m - g.win) m g.L.length = N) := ⟨_, Lib.hid rfl⟩
  rw [HN.out] at HC
  have hN1 : ((N : Int) == 1) = false := by rw [beq_eq_false_iff_ne]; have := HN.out; omega
  have HC0 := trivial
  clear hV HC0
  go_upto_region 7 with fail
  have G : Grew V V.drew := (Grew.refl V).drew
  go_region_held3 (fun w' => w'.cell? ⟨q, 0, none⟩ = some (.pointer (some ⟨e, 0, none⟩)) ∧ w'.cell? ⟨q, 1, none⟩ = some (.int .i64 g.win) ∧ w'.cell? ⟨q, 3, none⟩ = some (.bool false)) (exact (KS _ G).out) ((go_at_call 28; refine (HC _ G).out.mono ?_; rintro z w9 ⟨rfl, g9⟩; replace G := G.trans g9))
  go_upto_region 8 with fail
  have gr := G
  have HRV := HR.out.grew gr
  have hend2 : Hid (∀ W', Far (fun b => b = w.heap.size + 1) w9 W' → MsgTold g m ⟨k, u, sc, l, cy, false⟩ q e hb w (.returned (.tuple #[pdV none, .bool false])) W') := Lib.hid (fun W' f => hend.out w9 W' gr f)
  obtain ⟨⟨r0, r1, r2, r3, r4, r5, r6⟩, y0, y1, y2, y3, y4, y5, y6⟩ := At.seven HRV
  have ltr := HRV.lt
  clear gr HRV hend HR HW HC KS G g9
  generalize w.heap.size + 1 = r at *
  go_wp2_with fail
  refine bodyPost_ret (by simp [results, Try.results20, go_sem, r0, r1, r2, r3, r4, r5, r6]; try rfl) rfl ?_
  refine hend2.out _ ?_
  repeat (first | (with_reducible exact Far.refl _ _) | (with_reducible refine Far.drewF ?_) | (with_reducible refine Far.setCell (F := fun b => b = r) ?_ (p := ⟨r, _, none⟩) rfl _))
set_option maxRecDepth 100000 in
set_option maxHeartbeats 4000000 in
/-- It is paired with the last edge. -/
theorem pag_msg_one (w : World) (q e hb : Nat) (g : Pg) (m : Int) (x : Ms) (h : PagAt w q e hb g) (hc : ¬ m < g.latest) (hm : m ≤ 9223372036854775807) (hx : x.next = false) (ht : g.taken = false) (hn : cntE g.L (m - g.win) m g.L.length = 1) :
    Calls Try.prog 20 #[.pointer (some ⟨q, 0, none⟩), .int .i64 m, x.value] w (MsgTold g m x q e hb w) := by
  have HH := Lib.hid h
  have HOK := Lib.hid (h.ok.msg m x hm)
  have hrq : w.heap.size ≠ q := by have := h.at_.lt; omega
  have hre : w.heap.size ≠ e := by have := h.log.lt; omega
  have lt := h.at_.lt
  have lte := h.log.lt
  have c2 := h.at_.cell 2 _ rfl
  have f2 := h.at_.fz 2
  have hqe := h.qe
  have hre1 : w.heap.size + 1 ≠ e := by omega
  have hrq1 : w.heap.size + 1 ≠ q := by omega
  obtain ⟨k, u, sc, l, cy, n⟩ := x
  obtain rfl : n = false := hx
  unfold Ms.value
  clear h
  have hc' := Lib.hid hc
  generalize g.latest = t at c2 hc
  go_enter Try.func20, Try.ntmps20
  go_upto_region 4 with fail
  generalize hV : World.alloc (World.alloc _ _) _ = V
  have HW : Hid (MsgW w V q e hb g m ⟨k, u, sc, l, cy, false⟩) := Lib.hid (by rw [← hV]; exact msg_world HH.out m ⟨k, u, sc, l, cy, false⟩ _ _)
  obtain ⟨b0, b1, b2, b3, b4, b5⟩ := At.six HW.out.box
  have d0 := HW.out.at_.cell 0 _ rfl
  have d1 := HW.out.at_.cell 1 _ rfl
  have d3 := HW.out.at_.cell 3 _ rfl
  have ltV := HW.out.at_.lt
  have ltB := HW.out.box.lt
  rw [ht] at d3
  have hfree : g.free m = true := by unfold Pg.free; rw [hn, ht]; rfl
  have HFR := Lib.hid hfree
  clear hfree
  have hend : Hid (∀ V2 W', Grew V V2 → Far (fun b => b = w.heap.size + 1 ∨ V.heap.size ≤ b) (V2.setCell ⟨q, 3, none⟩ (.bool true)) W' → MsgTold g m ⟨k, u, sc, l, cy, false⟩ q e hb w (.returned (.tuple #[pdV (some ⟨lastE g.L, ⟨k, u, sc, l, cy, false⟩⟩), .bool true])) W') := Lib.hid (fun V2 W' gr f => by
    have sz := HW.out.size
    have sg := gr.size
    have F3 : Far (fun b => b = q) V (V2.setCell ⟨q, 3, none⟩ (.bool true)) := (Far.of_grew gr).trans (Far.one V2 ⟨q, 3, none⟩ _)
    refine ⟨hb, ?_, ⟨?_, ?_, ?_, hqe, HH.out.hq, HH.out.he, by have := HH.out.hl; have := HW.out.far.size; have := F3.size; have := f.size; omega, HOK.out⟩, .inl rfl, ?_⟩
    · unfold Pg.msgP; rw [if_neg hc'.out, HFR.out]; rfl
    · have := ((HW.out.at_.grew gr).set 3 (.bool true) (by simp)).far f (fun h => by have := HW.out.at_.lt; omega)
      unfold Pg.msg
      rw [if_neg hc'.out, HFR.out, ht]
      exact this
    · have := (HW.out.log.far F3 (fun h => hqe h.symm)).far f (fun h => by have := HW.out.log.lt; omega)
      unfold Pg.msg
      rw [if_neg hc'.out]
      exact this
    · intro y hy
      unfold Pg.msg at hy
      rw [if_neg hc'.out] at hy
      have hb1 := (HH.out.wait y hy).lt
      have hbq := HH.out.hq
      exact ((HW.out.wait y hy).far F3 hbq).far f (by omega)
    · exact (HW.out.far.trans (F3.mono (fun _ _ e => .inl e))).beyond f (fun x e => .inr (by omega)))
  have HR := Lib.hid HW.out.res
  have HBX := Lib.hid HW.out.box
  have HC := fun w' (G : Grew V w') => Lib.hid (log_Count w' e 0 g.L (m - g.win) m (HW.out.log.grew G))
  have KS : ∀ w', Grew V w' → Hid (w'.cell? ⟨q, 0, none⟩ = some (.pointer (some ⟨e, 0, none⟩)) ∧ w'.cell? ⟨q, 1, none⟩ = some (.int .i64 g.win) ∧ w'.cell? ⟨q, 3, none⟩ = some (.bool false)) := fun w' G => Lib.hid ⟨(HW.out.at_.grew G).cell 0 _ rfl, (HW.out.at_.grew G).cell 1 _ rfl, by have := (HW.out.at_.grew G).cell 3 _ rfl; rw [ht] at this; exact this⟩
  have e1 : IntKind.i64.wrap (m - g.win) = m - g.win := IntWalk.i64_in _ (by have := HH.out.ok.kw; have := HH.out.ok.kl; have := hc'.out; omega)
  rw [hn] at HC
  clear hV
  go_upto_region 7 with fail
  rw [show ((1 : Nat) : Int) = 1 from rfl] at HC
  have G : Grew V V.drew := (Grew.refl V).drew
  go_region_held3 (fun w' => w'.cell? ⟨q, 0, none⟩ = some (.pointer (some ⟨e, 0, none⟩)) ∧ w'.cell? ⟨q, 1, none⟩ = some (.int .i64 g.win) ∧ w'.cell? ⟨q, 3, none⟩ = some (.bool false)) (exact (KS _ G).out) ((go_at_call 28; refine (HC _ G).out.mono ?_; rintro z w9 ⟨rfl, g9⟩; replace G := G.trans g9))
  go_upto_region 9 with fail
  have HQ := HW.out.at_.grew G
  have q3 := HQ.cell 3 _ rfl
  have p3 := HQ.fz 3
  have ltq := HQ.lt
  have HQ3 := HQ.set 3 (.bool true) (by simp)
  have HL3 := (HW.out.log.grew G).far (Far.one w9 ⟨q, 3, none⟩ (.bool true)) (fun h => hqe h.symm)
  have HR3 := (HR.out.grew G).far (Far.one w9 ⟨q, 3, none⟩ (.bool true)) hrq1
  have HB3 := (HBX.out.grew G).far (Far.one w9 ⟨q, 3, none⟩ (.bool true)) hrq
  have hend3 : Hid (∀ W', Far (fun b => b = w.heap.size + 1 ∨ V.heap.size ≤ b) (w9.setCell ⟨q, 3, none⟩ (.bool true)) W' → MsgTold g m ⟨k, u, sc, l, cy, false⟩ q e hb w (.returned (.tuple #[pdV (some ⟨lastE g.L, ⟨k, u, sc, l, cy, false⟩⟩), .bool true])) W') := Lib.hid (fun W' f => hend.out w9 W' G f)
  clear KS HC HW HR HBX G HQ hend g9
  go_upto_region 10 with fail
  generalize hV3 : w9.setCell _ _ = V3 at HQ3 HL3 HR3 HB3 hend3 ⊢
  have q0 := HQ3.cell 0 _ rfl
  have lt3 := HQ3.lt
  have HLst := Lib.hid (log_Last V3 e 0 g.L HL3)
  have HR4 := Lib.hid HR3
  have HB4 := Lib.hid HB3
  obtain ⟨E, HE⟩ : ∃ E, Hid (lastE g.L = E) := ⟨_, Lib.hid rfl⟩
  rw [HE.out] at HLst hend3
  generalize decide (0 < g.L.length) = zz at HLst
  clear HQ3 HL3 HR3 HB3 hV3 q3 p3 ltq
  go_upto_region 11 with (go_at_call 29; refine HLst.out.mono ?_; rintro z w10 ⟨rfl, g10⟩)
  have HR5 := HR4.out.grew g10
  have HB5 := HB4.out.grew g10
  obtain ⟨⟨r0, r1, r2, r3, r4, r5, r6⟩, y0, y1, y2, y3, y4, y5, y6⟩ := At.seven HR5
  obtain ⟨x0, x1, x2, x3, x4, x5⟩ := At.six HB5
  have ltr := HR5.lt
  have ltx := HB5.lt
  have hend4 : Hid (∀ W', Far (fun b => b = w.heap.size + 1) w10 W' → MsgTold g m ⟨k, u, sc, l, cy, false⟩ q e hb w (.returned (.tuple #[pdV (some ⟨E, ⟨k, u, sc, l, cy, false⟩⟩), .bool true])) W') := Lib.hid (fun W' f => hend3.out W' ((Far.of_grew g10).trans (f.mono (fun _ _ e => .inl e))))
  clear HR4 HB4 HR5 HB5 hend3 g10 HLst
  generalize w.heap.size + 1 = r at *
  go_wp2_with fail
  refine bodyPost_ret (by simp [results, Try.results20, go_sem, r0, r1, r2, r3, r4, r5, r6]; try rfl) rfl ?_
  refine hend4.out _ ?_
  repeat (first | (with_reducible exact Far.refl _ _) | (with_reducible refine Far.drewF ?_) | (with_reducible refine Far.setCell (F := fun b => b = r) ?_ (p := ⟨r, _, none⟩) rfl _))
/-- A message comes. -/
theorem pag_msg (w : World) (q e hb : Nat) (g : Pg) (m : Int) (x : Ms) (h : PagAt w q e hb g) (hm : m ≤ 9223372036854775807) :
    Calls Try.prog 20 #[.pointer (some ⟨q, 0, none⟩), .int .i64 m, x.value] w (MsgTold g m x q e hb w) := by
  by_cases hc : m < g.latest
  · exact pag_msg_old w q e hb g m x h hc
  · cases hx : x.next with
    | true => exact pag_msg_next w q e hb g m x h hc hm hx
    | false =>
      cases ht : g.taken with
      | true => exact pag_msg_taken w q e hb g m x h hc hm hx ht
      | false =>
        by_cases hn : cntE g.L (m - g.win) m g.L.length = 1
        · exact pag_msg_one w q e hb g m x h hc hm hx ht hn
        · exact pag_msg_many w q e hb g m x h hc hm hx ht hn
end Go.Proofs.Ytkijonnbngnliaa
