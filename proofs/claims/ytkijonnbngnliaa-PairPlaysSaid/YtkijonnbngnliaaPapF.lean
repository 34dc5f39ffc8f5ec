/-
  The program's pairing: a copy; calls of one that is not there.
-/
import Derived.Test.YtkijonnbngnliaaPapD
import Derived.Test.YtkijonnbngnliaaPapC
import Derived.Deep.RegionWith
namespace Go.Proofs.Ytkijonnbngnliaa
open Go.RowKit
set_option linter.unusedVariables false

-- [COPY
set_option maxRecDepth 100000 in
set_option maxHeartbeats 4000000 in
theorem pai_Copy (w : World) (p q e hb : Nat) (g : Pg) (h : PaiAt w p q e hb g) :
    Calls Try.prog 7 #[.pointer (some ⟨p, 0, none⟩)] w fun y w' => ∃ p' q' e', y = .returned (.pointer (some ⟨p', 0, none⟩)) ∧ PaiAt w' p' q' e' hb g ∧ (w.heap.size ≤ p' ∧ w.heap.size ≤ q' ∧ w.heap.size ≤ e') ∧ Grew w w' := by
  have HH := Lib.hid h
  have HM := Lib.hid (pai_isMade w p q h.top)
  have c0 := h.top.cell 0 _ rfl
  have d0 := h.pag.at_.cell 0 _ rfl
  have d1 := h.pag.at_.cell 1 _ rfl
  have d2 := h.pag.at_.cell 2 _ rfl
  have d3 := h.pag.at_.cell 3 _ rfl
  have d4 := h.pag.at_.cell 4 _ rfl
  have ltp := h.top.lt
  have ltq := h.pag.at_.lt
  obtain ⟨wv, HWV⟩ : ∃ wv, Hid (waitV hb g.waits = .pointer wv) := by cases g.waits <;> exact ⟨_, Lib.hid rfl⟩
  rw [HWV.out] at d4
  clear h
  go_enter Try.func7, Try.ntmps7
  go_upto_region 4 with (go_at_call 16; refine HM.out.mono ?_; rintro y w1 ⟨rfl, hw1⟩; subst hw1)
  generalize hV : w.alloc _ = V
  have GV : Grew w V := by rw [← hV]; exact (Grew.refl w).alloc _
  have HN : Hid (At V w.heap.size [.pointer (some ⟨e, 0, none⟩), .int .i64 g.win, .int .i64 g.latest, .bool g.taken, .pointer wv]) := Lib.hid (by
    rw [← hV]; exact At.new w _ _)
  have c0' := (HH.out.grew GV).top.cell 0 _ rfl
  have d0' := (HH.out.grew GV).pag.at_.cell 0 _ rfl
  have ltp' := (HH.out.grew GV).top.lt
  have ltq' := (HH.out.grew GV).pag.at_.lt
  have HC := Lib.hid (log_Copy V e 0 g.L (HH.out.grew GV).pag.log)
  have sv : V.heap.size = w.heap.size + 1 := by rw [← hV]; simp
  have SV := Lib.hid sv
  have GVh := Lib.hid GV
  have ne0 := HN.out.cell 0 _ rfl
  have nf0 := HN.out.fz 0
  have ltn := HN.out.lt
  clear hV GV sv c0 d0 d1 d2 d3 d4 ltp ltq
  go_upto_region 5 with (go_at_call 17; refine HC.out.mono ?_; rintro y w2 ⟨rfl, l2, g2⟩; have n2 := (HN.out.grew g2).cell 0 _ rfl; have f2 := (HN.out.grew g2).fz 0; have lt2 := (HN.out.grew g2).lt; replace l2 := Lib.hid l2; replace g2 := Lib.hid g2)
  generalize hV3 : w2.setCell _ _ = V3
  have sv := SV.out
  have sz2 := g2.out.size
  have lth := HH.out.pag.hl
  have H3 : Hid (PagAt V3 w.heap.size V.heap.size hb g ∧ Grew w V3) := Lib.hid (by
    have hh := HH.out
    have F1 : Far (fun b => b = w.heap.size) w2 V3 := by rw [← hV3]; exact Far.one w2 ⟨w.heap.size, 0, none⟩ _
    have G3 : Grew w V3 := F1.grew (GVh.out.trans g2.out) (fun k e => by omega)
    refine ⟨⟨?_, l2.out.far F1 (by omega), fun y hy => ((hh.pag.wait y hy).grew (GVh.out.trans g2.out)).far F1 (by omega), by omega, by omega, by omega, Nat.lt_of_lt_of_le lth G3.size, hh.pag.ok⟩, G3⟩
    rw [HWV.out, ← hV3]
    exact (HN.out.grew g2.out).set 0 _ (by simp))
  clear hV3 n2 f2 HN l2
  have sz3 := H3.out.2.size
  have sz4 := H3.out.1.at_.lt
  have sz5 := H3.out.1.log.lt
  have SZ := Lib.hid (And.intro sz3 (And.intro sz4 (And.intro sz5 sv)))
  clear sz2 sv sz3 sz4 sz5 lt2 ltn
  go_wp2_with fail
  go_ret
  obtain ⟨sz3, sz4, sz5, sv⟩ := SZ.out
  refine ⟨V3.heap.size, w.heap.size, V.heap.size, rfl, ⟨At.new V3 [.pointer (some ⟨w.heap.size, 0, none⟩)] _, H3.out.1.grew ((Grew.refl _).alloc _), by omega, by omega⟩, ⟨by omega, Nat.le_refl _, by omega⟩, H3.out.2.alloc _⟩
-- COPY]
-- [NONE
/-- An edge comes to one that has no edges. -/
theorem pag_edge_nil (w : World) (q : Nat) (c : Int) (h : At w q [.pointer none, .int .i64 0, .int .i64 0, .bool false, .pointer none]) :
    Calls Try.prog 19 #[.pointer (some ⟨q, 0, none⟩), .int .i64 c] w fun x w' => x = .returned (.tuple #[pdV none, .bool false, .int .i64 1]) ∧ Grew w w' := by
  have lt := h.lt
  have c0 := h.cell 0 _ rfl
  clear h
  go_enter Try.func19, Try.ntmps19
  go_wp2_with fail
  refine bodyPost_ret (by simp [results, Try.results19, go_sem]; try rfl) rfl ?_
  exact ⟨rfl, (Grew.refl w).alloc _⟩
set_option maxRecDepth 100000 in
set_option maxHeartbeats 4000000 in
theorem pai_Edge_none (w : World) (c : Int) :
    Calls Try.prog 8 #[.pointer none, .int .i64 c] w fun x w' => x = .returned (.tuple #[pdV none, .bool false]) ∧ Grew w w' := by
  have gV := (Grew.refl w).alloc (.cells #[.int .i64 0, .int .u8 0, .bool false, .int .i64 0, .bool false, .int .i64 0, .bool false] 38)
  have hr0 := At.new w noPdC 38
  have HI := Lib.hid (pai_inner_none (w.alloc (.cells #[.int .i64 0, .int .u8 0, .bool false, .int .i64 0, .bool false, .int .i64 0, .bool false] 38)))
  rw [show (w.alloc (.cells #[.int .i64 0, .int .u8 0, .bool false, .int .i64 0, .bool false, .int .i64 0, .bool false] 38)).heap.size = w.heap.size + 1 by simp] at HI
  generalize w.heap.size + 1 = n at HI
  have HE := fun w' h => Lib.hid (pag_edge_nil w' n c h)
  unfold pdV Pd.value at HE ⊢
  simp only [Option.getD_none] at HE ⊢
  generalize noPd = P at HE ⊢
  have HR0 := Lib.hid hr0
  have HG := Lib.hid gV
  clear hr0 gV
  go_enter Try.func8, Try.ntmps8
  go_upto_region 2 with (first
    | (go_at_call 18; refine HI.out.mono ?_; rintro x w1 ⟨rfl, h1, g1⟩; replace h1 := Lib.hid h1; replace g1 := Lib.hid g1)
    | (go_at_call 19; refine (HE _ h1.out).out.mono ?_; rintro x w2 ⟨rfl, g2⟩; replace g2 := Lib.hid g2))
  have GG := HG.out.trans (g1.out.trans g2.out)
  have R2 := HR0.out.grew (g1.out.trans g2.out)
  have T3 := At.new w2 [.int .i64 P.edge, .int .u8 P.msg.kind, .bool P.msg.utc, .int .i64 P.msg.sec, .bool P.msg.leap, .int .i64 P.msg.cycle, .bool P.msg.next] 38
  have g3 := (Grew.refl w2).alloc (.cells [.int .i64 P.edge, .int .u8 P.msg.kind, .bool P.msg.utc, .int .i64 P.msg.sec, .bool P.msg.leap, .int .i64 P.msg.cycle, .bool P.msg.next].toArray 38)
  have R3 := R2.grew g3
  have hend : Hid (∀ W', Far (fun b => b = w.heap.size) (w2.alloc (.cells [.int .i64 P.edge, .int .u8 P.msg.kind, .bool P.msg.utc, .int .i64 P.msg.sec, .bool P.msg.leap, .int .i64 P.msg.cycle, .bool P.msg.next].toArray 38)) W' → Grew w W') := Lib.hid (fun W' f =>
    f.grew (GG.trans g3) (fun k e => Nat.le_of_eq e.symm))
  generalize hV3 : w2.alloc _ = w3 at T3 R3 hend ⊢
  obtain ⟨⟨r0, r1, r2, r3, r4, r5, r6⟩, y0, y1, y2, y3, y4, y5, y6⟩ := At.seven R3
  obtain ⟨⟨t0, t1, t2, t3, t4, t5, t6⟩, -⟩ := At.seven T3
  have ltr := R3.lt
  have ltt := T3.lt
  generalize w.heap.size = r at *
  clear R2 R3 T3 g3 hV3 GG g1 g2 HG HR0 h1
  go_wp2_with fail
  refine bodyPost_ret (by simp [results, Try.results8, go_sem, r0, r1, r2, r3, r4, r5, r6]; try rfl) rfl ?_
  refine ⟨rfl, hend.out _ ?_⟩
  repeat (first | (with_reducible exact Far.refl _ _) | (with_reducible refine Far.drewF ?_) | (with_reducible refine Far.setCell (F := fun b => b = r) ?_ (p := ⟨r, _, none⟩) rfl _))
set_option maxRecDepth 100000 in
set_option maxHeartbeats 4000000 in
/-- A message comes to one that has no edges. -/
theorem pag_msg_nil (w : World) (q : Nat) (m : Int) (hm : 0 ≤ m) (h : At w q [.pointer none, .int .i64 0, .int .i64 0, .bool false, .pointer none]) (hk : -9223372036854775808 ≤ m ∧ m ≤ 9223372036854775807) :
    Calls Try.prog 20 #[.pointer (some ⟨q, 0, none⟩), .int .i64 m, .agg #[.int .u8 0, .bool false, .int .i64 0, .bool false, .int .i64 0, .bool false]] w fun x w' => x = .returned (.tuple #[pdV none, .bool false]) ∧ Far (fun b => b = q) w w' := by
  have HC := fun w' => Lib.hid (edge_Count_none w' (m - 0) m)
  have hrq : w.heap.size + 1 ≠ q := by have := h.lt; omega
  have HH := Lib.hid h
  have lt := h.lt
  have c2 := h.cell 2 _ rfl
  have f2 := h.fz 2
  have hc : ¬ m < 0 := by omega
  have e1 : IntKind.i64.wrap (m - 0) = m - 0 := IntWalk.i64_in _ (by omega)
  rw [Int.sub_zero] at HC e1
  clear h
  go_enter Try.func20, Try.ntmps20
  go_upto_region 4 with fail
  generalize hV : World.alloc (World.alloc _ _) _ = V
  have s1 : (w.setCell ⟨q, 2, none⟩ (.int .i64 m)).heap.size = w.heap.size := by simp [World.setCell]
  have HQ : Hid (At V q [.pointer none, .int .i64 0, .int .i64 m, .bool false, .pointer none]) := Lib.hid (by
    rw [← hV]; exact (HH.out.set 2 (.int .i64 m) (by simp)).grew (((Grew.refl _).alloc _).alloc _))
  have HB : Hid (At V w.heap.size (msC noMs)) := Lib.hid (by
    have := At.new (w.setCell ⟨q, 2, none⟩ (.int .i64 m)) (msC noMs) 33
    rw [s1] at this
    rw [← hV]
    exact this.grew ((Grew.refl _).alloc _))
  have HR : Hid (At V (w.heap.size + 1) noPdC) := Lib.hid (by
    have := At.new ((w.setCell ⟨q, 2, none⟩ (.int .i64 m)).alloc (.cells (msC noMs).toArray 33)) noPdC 38
    rw [show ((w.setCell ⟨q, 2, none⟩ (.int .i64 m)).alloc (.cells (msC noMs).toArray 33)).heap.size = w.heap.size + 1 by simp [s1]] at this
    rw [← hV]
    exact this)
  have FV : Hid (Far (fun b => b = q) w V) := Lib.hid (by
    rw [← hV]; exact (Far.one w ⟨q, 2, none⟩ _).trans (Far.of_grew (((Grew.refl _).alloc _).alloc _)))
  have b5 := HB.out.cell 5 _ rfl
  unfold noMs at b5
  simp only at b5
  have KS : ∀ w', Grew V w' → Hid (w'.cell? ⟨q, 0, none⟩ = some (.pointer none) ∧ w'.cell? ⟨q, 1, none⟩ = some (.int .i64 0) ∧ w'.cell? ⟨q, 3, none⟩ = some (.bool false)) := fun w' G => Lib.hid ⟨(HQ.out.grew G).cell 0 _ rfl, (HQ.out.grew G).cell 1 _ rfl, (HQ.out.grew G).cell 3 _ rfl⟩
  have ltV := HQ.out.lt
  have ltB := HB.out.lt
  clear hV s1
  go_upto_region 7 with fail
  have G : Grew V V.drew := (Grew.refl V).drew
  go_region_held3 (fun w' => w'.cell? ⟨q, 0, none⟩ = some (.pointer none) ∧ w'.cell? ⟨q, 1, none⟩ = some (.int .i64 0) ∧ w'.cell? ⟨q, 3, none⟩ = some (.bool false)) (exact (KS _ G).out) ((go_at_call 28; refine (HC _).out.mono ?_; rintro z w9 ⟨rfl, g9⟩; replace G := G.trans g9))
  go_upto_region 8 with fail
  have HR9 := HR.out.grew G
  have hend : Hid (∀ W', Far (fun b => b = w.heap.size + 1) w9 W' → Far (fun b => b = q) w W') := Lib.hid (fun W' f => (FV.out.trans (Far.of_grew G)).beyond f (fun x e => .inr (by omega)))
  obtain ⟨⟨r0, r1, r2, r3, r4, r5, r6⟩, y0, y1, y2, y3, y4, y5, y6⟩ := At.seven HR9
  have ltr := HR9.lt
  clear HR9 HR HB HQ KS HC G g9
  generalize w.heap.size + 1 = r at *
  go_wp2_with fail
  refine bodyPost_ret (by simp [results, Try.results20, go_sem, r0, r1, r2, r3, r4, r5, r6]; try rfl) rfl ?_
  refine ⟨rfl, hend.out _ ?_⟩
  repeat (first | (with_reducible exact Far.refl _ _) | (with_reducible refine Far.drewF ?_) | (with_reducible refine Far.setCell (F := fun b => b = r) ?_ (p := ⟨r, _, none⟩) rfl _))
set_option maxRecDepth 100000 in
set_option maxHeartbeats 4000000 in
theorem pai_Message_none (w : World) (m : Int) (hm : 0 ≤ m ∧ m ≤ 9223372036854775807) :
    Calls Try.prog 9 #[.pointer none, .int .i64 m, .agg #[.int .u8 0, .bool false, .int .i64 0, .bool false, .int .i64 0, .bool false]] w fun x w' => x = .returned (.tuple #[pdV none, .bool false]) ∧ Grew w w' := by
  have HM0 := fun w' q h => Lib.hid (pag_msg_nil w' q m hm.1 h ⟨by omega, hm.2⟩)
  unfold pdV Pd.value at HM0 ⊢
  simp only [Option.getD_none] at HM0 ⊢
  generalize noPd = P at HM0 ⊢
  go_enter Try.func9, Try.ntmps9
  go_upto_region 1 with fail
  generalize hV : World.alloc (World.alloc _ _) _ = V
  have GV : Grew w V := by rw [← hV]; exact ((Grew.refl w).alloc _).alloc _
  have BX : Hid (At V w.heap.size (msC noMs)) := Lib.hid (by
    rw [← hV]
    exact (At.new w (msC noMs) _).grew ((Grew.refl _).alloc _))
  have HR : Hid (At V (w.heap.size + 1) noPdC) := Lib.hid (by
    rw [← hV]
    have := At.new (w.alloc (.cells (msC noMs).toArray 33)) noPdC 38
    rw [show (w.alloc (.cells (msC noMs).toArray 33)).heap.size = w.heap.size + 1 by simp] at this
    exact this)
  have sz : V.heap.size = w.heap.size + 2 := by rw [← hV]; simp
  obtain ⟨b0, b1, b2, b3, b4, b5⟩ := At.six BX.out
  unfold noMs at b0 b1 b2 b3 b4 b5
  simp only at b0 b1 b2 b3 b4 b5
  have ltb := BX.out.lt
  have hrlt := HR.out.lt
  have HI := Lib.hid (pai_inner_none V.drew)
  rw [show V.drew.heap.size = V.heap.size from rfl] at HI
  have GVh := Lib.hid GV
  clear hV GV
  obtain ⟨n, HN⟩ : ∃ n, Hid (V.heap.size = n) := ⟨_, Lib.hid rfl⟩
  have hrn : w.heap.size + 1 ≠ n := by have := HN.out; omega
  have hwn : w.heap.size ≤ n := by have := HN.out; omega
  have hbn : w.heap.size ≠ n := by have := HN.out; omega
  rw [HN.out] at HI
  have HM := fun w' h => HM0 w' n h
  clear HM0 sz
  have G : Hid (Grew V V.drew) := Lib.hid ((Grew.refl V).drew)
  generalize hr : w.heap.size + 1 = r at *
  have HRn := Lib.hid hr
  clear hr
  go_region_with (first
    | (go_at_call 18; refine HI.out.mono ?_; rintro y w1 ⟨rfl, h1, g1⟩; have d0 := ((BX.out.grew G.out).grew g1).cell 0 _ rfl; have d1 := ((BX.out.grew G.out).grew g1).cell 1 _ rfl; have d2 := ((BX.out.grew G.out).grew g1).cell 2 _ rfl; have d3 := ((BX.out.grew G.out).grew g1).cell 3 _ rfl; have d4 := ((BX.out.grew G.out).grew g1).cell 4 _ rfl; have d5 := ((BX.out.grew G.out).grew g1).cell 5 _ rfl; have ltd := ((BX.out.grew G.out).grew g1).lt; unfold noMs at d0 d1 d2 d3 d4 d5; simp only at d0 d1 d2 d3 d4 d5; replace h1 := Lib.hid h1; replace g1 := Lib.hid g1)
    | (go_at_call 20; refine (HM _ h1.out).out.mono ?_; rintro y w2 ⟨rfl, f2⟩; have hend : Hid (∀ W', Far (fun b => b = r) w2 W' → Grew w W') := Lib.hid (fun W' f => (((Far.of_grew (F := fun b => b = n ∨ b = r) (G.out.trans g1.out)).trans (f2.mono (fun _ _ e => .inl e))).trans (f.mono (fun _ _ e => .inr e))).grew GVh.out (fun k e => by have := HRn.out; omega)); have HR2 := ((HR.out.grew G.out).grew g1.out).far f2 hrn; obtain ⟨⟨r0, r1, r2, r3, r4, r5, r6⟩, y0, y1, y2, y3, y4, y5, y6⟩ := At.seven HR2; have ltr := HR2.lt; clear HR2 f2))
  all_goals go_wp2_with fail
  all_goals refine bodyPost_ret (by simp [results, Try.results9, go_sem, r0, r1, r2, r3, r4, r5, r6]; try rfl) rfl ?_
  all_goals refine ⟨rfl, hend.out _ ?_⟩
  all_goals repeat (first | (with_reducible exact Far.refl _ _) | (with_reducible refine Far.drewF ?_) | (with_reducible refine Far.setCell (F := fun b => b = r) ?_ (p := ⟨r, _, none⟩) rfl _))
-- NONE]
end Go.Proofs.Ytkijonnbngnliaa
