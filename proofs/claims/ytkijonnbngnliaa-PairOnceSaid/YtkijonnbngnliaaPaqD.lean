/-
  The document's pairing: one more comes.
-/
import Derived.Test.YtkijonnbngnliaaPaqA
namespace Go.Proofs.Ytkijonnbngnliaa
open Go.RowKit
set_option linter.unusedVariables false

theorem own_lit0 {w : World} {b B : Nat} {E : TypeId} (h : w.heap[b]? = some (.cells #[] E)) (hb : B ≤ b) : w.ownsRow B E 10 (.slice (some ⟨b, 0, none⟩) 0 0) 0 [] :=
  ⟨by simp, .inr ⟨b, 0, #[], rfl, hb, h, Nat.le_refl _, Nat.zero_le _, by simp, by simp⟩⟩
theorem own_lit1 {w : World} {b B : Nat} {E : TypeId} {x : Tg} (h : w.heap[b]? = some (.cells (tgC x).toArray E)) (hb : B ≤ b) : w.ownsRow B E 10 (.slice (some ⟨b, 0, none⟩) 1 1) 1 (flatT [x]) :=
  ⟨by rw [flatT_one]; rfl, .inr ⟨b, 1, _, rfl, hb, h, Nat.le_refl _, by decide, rfl, by rw [flatT_one]; rfl⟩⟩
/-- The ten cells of a thing. -/
structure Ten (w : World) (b : Nat) (x : Tg) : Prop where
  lt : b < w.heap.size
  c0 : w.cell? ⟨b, 0, none⟩ = some (.int .i64 x.at_)
  c1 : w.cell? ⟨b, 1, none⟩ = some (.bool x.edge)
  c2 : w.cell? ⟨b, 2, none⟩ = some (.int .u8 x.msg.kind)
  c3 : w.cell? ⟨b, 3, none⟩ = some (.bool x.msg.utc)
  c4 : w.cell? ⟨b, 4, none⟩ = some (.int .i64 x.msg.sec)
  c5 : w.cell? ⟨b, 5, none⟩ = some (.bool x.msg.leap)
  c6 : w.cell? ⟨b, 6, none⟩ = some (.int .i64 x.msg.cycle)
  c7 : w.cell? ⟨b, 7, none⟩ = some (.bool x.msg.next)
  c8 : w.cell? ⟨b, 8, none⟩ = some (.bool x.isin)
  c9 : w.cell? ⟨b, 9, none⟩ = some (.bool x.gone)
theorem At.ten {w : World} {b : Nat} {x : Tg} (h : At w b (tgC x)) : Ten w b x :=
  ⟨h.lt, h.cell 0 _ rfl, h.cell 1 _ rfl, h.cell 2 _ rfl, h.cell 3 _ rfl, h.cell 4 _ rfl, h.cell 5 _ rfl, h.cell 6 _ rfl, h.cell 7 _ rfl, h.cell 8 _ rfl, h.cell 9 _ rfl⟩
def Tg.value (t : Tg) : Value := .agg #[.int .i64 t.at_, .bool t.edge, .int .u8 t.msg.kind, .bool t.msg.utc, .int .i64 t.msg.sec, .bool t.msg.leap, .int .i64 t.msg.cycle, .bool t.msg.next, .bool t.isin, .bool t.gone]
def AddP (r : Nat) (win : Int) (T : List Tg) (x : Tg) (w : World) (e : Ending) (w' : World) : Prop :=
  ∃ b c, e = .returned (.tuple #[]) ∧ RefP w' r win (.slice (some ⟨b, 0, none⟩) (T.length + 1) c) (T ++ [x]) ∧ w.heap.size ≤ b ∧ Far (fun k => k = r) w w'
theorem add_end {w V w2 : World} {r : Nat} {win : Int} {L : Value} {T : List Tg} {x : Tg} {b2 c2 : Nat} (hgv : Grew w V) (hr : RefP V r win L T) (G2 : Grew V w2) (ho : w2.ownsRow V.heap.size 59 10 (.slice (some ⟨b2, 0, none⟩) (T.length + 1) c2) (T.length + 1) (flatT T ++ flatT [x])) (hb : V.heap.size ≤ b2) :
    AddP r win T x w (.returned (.tuple #[])) (w2.setCell ⟨r, 1, none⟩ (.slice (some ⟨b2, 0, none⟩) (T.length + 1) c2)) := by
  have lt := hr.at_.lt
  refine ⟨b2, c2, rfl, ⟨(hr.at_.grew G2).set 1 _ (by simp), ?_, fun b e => ?_⟩, Nat.le_trans hgv.size hb, (Far.of_grew (hgv.trans G2)).trans (Far.one w2 ⟨r, 1, none⟩ _)⟩
  · rw [flatT_app, List.length_append]
    exact ownT_far (ownT_base ho (Nat.zero_le _)) (Far.one w2 ⟨r, 1, none⟩ _) (fun b e => by simp only [Value.ownBlock, Option.some.injEq] at e; simp only; omega)
  · simp only [Value.ownBlock, Option.some.injEq] at e
    omega
set_option maxRecDepth 100000 in
set_option maxHeartbeats 4000000 in
theorem ref17_add (w : World) (r : Nat) (win : Int) (L : Value) (T : List Tg) (x : Tg) (h : RefP w r win L T) (hl : T.length ≤ 100000) :
    Calls Try.prog 22 #[.pointer (some ⟨r, 0, none⟩), x.value] w (AddP r win T x w) := by
  have HH := Lib.hid h
  obtain ⟨A, cp, hL, hcp⟩ := ownT_form h.row
  unfold Tg.value
  go_enter Try.func22, Try.ntmps22
  go_upto_region 1 with fail
  generalize hV : w.alloc _ = V
  have gV : Grew w V := by rw [← hV]; exact (Grew.refl w).alloc _
  have BX : Hid (At V w.heap.size (tgC x)) := Lib.hid (by rw [← hV]; exact At.new w (tgC x) _)
  have hsv : V.heap.size = w.heap.size + 1 := by rw [← hV]; simp
  have HRV := Lib.hid (HH.out.grew gV)
  have HGV := Lib.hid gV
  have HSV := Lib.hid hsv
  have HL := Lib.hid hL
  clear hV gV hsv h hL
  have lt := HRV.out.at_.lt
  have d1 := HRV.out.at_.cell 1 _ rfl
  have f1 := HRV.out.at_.fz 1
  obtain ⟨ltb, b0, b1, b2, b3, b4, b5, b6, b7, b8, b9⟩ := At.ten BX.out
  rw [HL.out] at d1
  have HROW := Lib.hid HRV.out.row
  rw [HL.out] at HROW
  have HLT := Lib.hid (show ∀ b, L.ownBlock = some b → b < V.heap.size from fun b hb => (World.ownsRow.lt HRV.out.row b hb).2)
  generalize w.heap.size = n0 at *
  have OA : (V.alloc (.cells #[] 59)).drew.ownsRow V.heap.size 59 10 (.slice (some ⟨V.heap.size, 0, none⟩) 0 0) 0 [] := own_lit0 (heap_alloc_new _ _) (Nat.le_refl _)
  have OB : ((V.alloc (.cells #[] 59)).alloc (.cells #[.int .i64 x.at_, .bool x.edge, .int .u8 x.msg.kind, .bool x.msg.utc, .int .i64 x.msg.sec, .bool x.msg.leap, .int .i64 x.msg.cycle, .bool x.msg.next, .bool x.isin, .bool x.gone] 59)).drew.ownsRow V.heap.size 59 10 (.slice (some ⟨V.heap.size, 0, none⟩) 0 0) 0 [] := ownT_grew OA (((Grew.refl _).alloc _) : Grew (V.alloc (.cells #[] 59)).drew ((V.alloc (.cells #[] 59)).drew.alloc (.cells #[.int .i64 x.at_, .bool x.edge, .int .u8 x.msg.kind, .bool x.msg.utc, .int .i64 x.msg.sec, .bool x.msg.leap, .int .i64 x.msg.cycle, .bool x.msg.next, .bool x.isin, .bool x.gone] 59)))
  have OC : ((V.alloc (.cells #[.int .i64 x.at_, .bool x.edge, .int .u8 x.msg.kind, .bool x.msg.utc, .int .i64 x.msg.sec, .bool x.msg.leap, .int .i64 x.msg.cycle, .bool x.msg.next, .bool x.isin, .bool x.gone] 59)).alloc (.cells #[] 59)).drew.ownsRow V.heap.size 59 10 (.slice (some ⟨V.heap.size + 1, 0, none⟩) 0 0) 0 [] := own_lit0 (by have := heap_alloc_new (V.alloc (.cells #[.int .i64 x.at_, .bool x.edge, .int .u8 x.msg.kind, .bool x.msg.utc, .int .i64 x.msg.sec, .bool x.msg.leap, .int .i64 x.msg.cycle, .bool x.msg.next, .bool x.isin, .bool x.gone] 59)) (.cells #[] 59); rw [show (V.alloc (.cells #[.int .i64 x.at_, .bool x.edge, .int .u8 x.msg.kind, .bool x.msg.utc, .int .i64 x.msg.sec, .bool x.msg.leap, .int .i64 x.msg.cycle, .bool x.msg.next, .bool x.isin, .bool x.gone] 59)).heap.size = V.heap.size + 1 by simp] at this; exact this) (by omega)
  have GA : Grew V (V.alloc (.cells #[] 59)).drew := ((Grew.refl V).alloc _).drew
  have GB : Grew V ((V.alloc (.cells #[] 59)).alloc (.cells #[.int .i64 x.at_, .bool x.edge, .int .u8 x.msg.kind, .bool x.msg.utc, .int .i64 x.msg.sec, .bool x.msg.leap, .int .i64 x.msg.cycle, .bool x.msg.next, .bool x.isin, .bool x.gone] 59)).drew := ((((Grew.refl V).alloc _).alloc _).drew)
  have GC : Grew V ((V.alloc (.cells #[.int .i64 x.at_, .bool x.edge, .int .u8 x.msg.kind, .bool x.msg.utc, .int .i64 x.msg.sec, .bool x.msg.leap, .int .i64 x.msg.cycle, .bool x.msg.next, .bool x.isin, .bool x.gone] 59)).alloc (.cells #[] 59)).drew := ((((Grew.refl V).alloc _).alloc _).drew)
  have RA := ownT_grew HROW.out GA
  have RB := ownT_grew HROW.out GB
  have RC := ownT_grew HROW.out GC
  have XB : ((V.alloc (.cells #[] 59)).alloc (.cells #[.int .i64 x.at_, .bool x.edge, .int .u8 x.msg.kind, .bool x.msg.utc, .int .i64 x.msg.sec, .bool x.msg.leap, .int .i64 x.msg.cycle, .bool x.msg.next, .bool x.isin, .bool x.gone] 59)).drew.heap[V.heap.size + 1]? = some (.cells #[.int .i64 x.at_, .bool x.edge, .int .u8 x.msg.kind, .bool x.msg.utc, .int .i64 x.msg.sec, .bool x.msg.leap, .int .i64 x.msg.cycle, .bool x.msg.next, .bool x.isin, .bool x.gone] 59) := by have := heap_alloc_new (V.alloc (.cells #[] 59)) (.cells #[.int .i64 x.at_, .bool x.edge, .int .u8 x.msg.kind, .bool x.msg.utc, .int .i64 x.msg.sec, .bool x.msg.leap, .int .i64 x.msg.cycle, .bool x.msg.next, .bool x.isin, .bool x.gone] 59); rw [show (V.alloc (.cells #[] 59)).heap.size = V.heap.size + 1 by simp] at this; exact this
  have XC : ((V.alloc (.cells #[.int .i64 x.at_, .bool x.edge, .int .u8 x.msg.kind, .bool x.msg.utc, .int .i64 x.msg.sec, .bool x.msg.leap, .int .i64 x.msg.cycle, .bool x.msg.next, .bool x.isin, .bool x.gone] 59)).alloc (.cells #[] 59)).drew.heap[V.heap.size]? = some (.cells #[.int .i64 x.at_, .bool x.edge, .int .u8 x.msg.kind, .bool x.msg.utc, .int .i64 x.msg.sec, .bool x.msg.leap, .int .i64 x.msg.cycle, .bool x.msg.next, .bool x.isin, .bool x.gone] 59) := (heap_alloc_old (r := V.heap.size) (V.alloc (.cells #[.int .i64 x.at_, .bool x.edge, .int .u8 x.msg.kind, .bool x.msg.utc, .int .i64 x.msg.sec, .bool x.msg.leap, .int .i64 x.msg.cycle, .bool x.msg.next, .bool x.isin, .bool x.gone] 59)) (.cells #[] 59) (by simp)).trans (heap_alloc_new V (.cells #[.int .i64 x.at_, .bool x.edge, .int .u8 x.msg.kind, .bool x.msg.utc, .int .i64 x.msg.sec, .bool x.msg.leap, .int .i64 x.msg.cycle, .bool x.msg.next, .bool x.isin, .bool x.gone] 59))
  have SA : V.heap.size ≤ (V.alloc (.cells #[] 59)).drew.heap.size := GA.size
  have SB : V.heap.size ≤ ((V.alloc (.cells #[] 59)).alloc (.cells #[.int .i64 x.at_, .bool x.edge, .int .u8 x.msg.kind, .bool x.msg.utc, .int .i64 x.msg.sec, .bool x.msg.leap, .int .i64 x.msg.cycle, .bool x.msg.next, .bool x.isin, .bool x.gone] 59)).drew.heap.size := GB.size
  have SC : V.heap.size ≤ ((V.alloc (.cells #[.int .i64 x.at_, .bool x.edge, .int .u8 x.msg.kind, .bool x.msg.utc, .int .i64 x.msg.sec, .bool x.msg.leap, .int .i64 x.msg.cycle, .bool x.msg.next, .bool x.isin, .bool x.gone] 59)).alloc (.cells #[] 59)).drew.heap.size := GC.size
  have KEEP := Lib.hid (fun (W w1 : World) (G : Grew V w1) => (⟨HRV.out.grew G, At.ten (BX.out.grew G)⟩ : RefP w1 r win L T ∧ Ten w1 n0 x))
  have HRV2 := HRV
  clear HRV
  go_region_law (first
    | (refine step_joinT _ rfl (.tmp 10) (.tmp 12) 29 rfl V.heap.size 0 59 59 _ 10 64 Try.underlying29 infoThing rfl (by decide) v1 T.length (flatT T) rfl (by with_reducible exact (ho1.out.alloc _)) (.slice (some ⟨w1.heap.size, 0, none⟩) 1 1) 1 (flatT [x]) rfl (own_lit1 (heap_alloc_new _ _) (Nat.zero_le _)) (flatT_one1 [x]) (by omega) (by decide) (Nat.le_trans G1.out.size (size_new _ _)) ?_; intro v2 w2 ho2 hg2 hn2; have G2 := Grew.pushT (G1.out.alloc _) (ho1.out.alloc _) (Nat.le_refl _) hg2; obtain ⟨b2, c2, hv2, hb2, hlt2, _⟩ := ownT_head ho2 (by omega); subst hv2; obtain ⟨K1, _⟩ := KEEP.out w2 w2 G2; have mt2 := K1.at_.lt; have e2 := K1.at_.cell 1 _ rfl; have g2 := K1.at_.fz 1; rw [HL.out] at e2; have hend := Lib.hid (add_end HGV.out HRV2.out G2 ho2 hb2); clear K1 hg2 hn2 ho2 G2)
    | (refine step_joinT _ rfl (.tmp 10) (.tmp 12) 29 rfl V.heap.size 0 59 59 _ 10 64 Try.underlying29 infoThing rfl (by decide) v1 T.length (flatT T) rfl (by with_reducible exact P1) (.slice (some ⟨V.heap.size + 1, 0, none⟩) 1 1) 1 (flatT [x]) rfl (own_lit1 Y1 (Nat.zero_le _)) (flatT_one1 [x]) (by omega) (by decide) (G1.out.size) ?_; intro v2 w2 ho2 hg2 hn2; have G2 := Grew.pushT G1.out ho1.out (Nat.le_refl _) hg2; obtain ⟨b2, c2, hv2, hb2, hlt2, _⟩ := ownT_head ho2 (by omega); subst hv2; obtain ⟨K1, _⟩ := KEEP.out w2 w2 G2; have mt2 := K1.at_.lt; have e2 := K1.at_.cell 1 _ rfl; have g2 := K1.at_.fz 1; rw [HL.out] at e2; have hend := Lib.hid (add_end HGV.out HRV2.out G2 ho2 hb2); clear K1 hg2 hn2 ho2 G2)
    | (refine step_joinT _ rfl (.tmp 10) (.tmp 12) 29 rfl V.heap.size 0 59 59 _ 10 64 Try.underlying29 infoThing rfl (by decide) v1 T.length (flatT T) rfl (by with_reducible exact P1) (.slice (some ⟨V.heap.size, 0, none⟩) 1 1) 1 (flatT [x]) rfl (own_lit1 Y1 (Nat.zero_le _)) (flatT_one1 [x]) (by omega) (by decide) (G1.out.size) ?_; intro v2 w2 ho2 hg2 hn2; have G2 := Grew.pushT G1.out ho1.out (Nat.le_refl _) hg2; obtain ⟨b2, c2, hv2, hb2, hlt2, _⟩ := ownT_head ho2 (by omega); subst hv2; obtain ⟨K1, _⟩ := KEEP.out w2 w2 G2; have mt2 := K1.at_.lt; have e2 := K1.at_.cell 1 _ rfl; have g2 := K1.at_.fz 1; rw [HL.out] at e2; have hend := Lib.hid (add_end HGV.out HRV2.out G2 ho2 hb2); clear K1 hg2 hn2 ho2 G2)
    | (refine step_joinT _ rfl (.tmp 5) (.tmp 9) 29 rfl V.heap.size 0 59 59 _ 10 64 Try.underlying29 infoThing rfl (by decide) (.slice (some ⟨V.heap.size, 0, none⟩) 0 0) 0 [] rfl (by with_reducible exact OA) (.slice A T.length cp) T.length (flatT T) rfl (by with_reducible exact RA) (flatT_one1 T) (by omega) (by decide) (by with_reducible exact SA) ?_; intro v1 w1 ho1 hg1 hn1; have G1 := Grew.pushT GA OA (Nat.le_refl _) hg1; obtain ⟨K1, K2⟩ := KEEP.out w1 w1 G1; obtain ⟨mtb, k0, k1, k2, k3, k4, k5, k6, k7, k8, k9⟩ := K2; have mt := K1.at_.lt; have e1 := K1.at_.cell 1 _ rfl; have g1 := K1.at_.fz 1; rw [HL.out] at e1; rw [List.nil_append, Nat.zero_add] at ho1; have P1 := ho1; replace G1 := Lib.hid G1; replace ho1 := Lib.hid ho1; clear K1 hg1 hn1)
    | (refine step_joinT _ rfl (.tmp 5) (.tmp 9) 29 rfl V.heap.size 0 59 59 _ 10 64 Try.underlying29 infoThing rfl (by decide) (.slice (some ⟨V.heap.size, 0, none⟩) 0 0) 0 [] rfl (by with_reducible exact OB) (.slice A T.length cp) T.length (flatT T) rfl (by with_reducible exact RB) (flatT_one1 T) (by omega) (by decide) (by with_reducible exact SB) ?_; intro v1 w1 ho1 hg1 hn1; have G1 := Grew.pushT GB OB (Nat.le_refl _) hg1; obtain ⟨K1, K2⟩ := KEEP.out w1 w1 G1; obtain ⟨mtb, k0, k1, k2, k3, k4, k5, k6, k7, k8, k9⟩ := K2; have mt := K1.at_.lt; have e1 := K1.at_.cell 1 _ rfl; have g1 := K1.at_.fz 1; rw [HL.out] at e1; rw [List.nil_append, Nat.zero_add] at ho1; have P1 := ho1; have Y1 : w1.heap[V.heap.size + 1]? = some (.cells #[.int .i64 x.at_, .bool x.edge, .int .u8 x.msg.kind, .bool x.msg.utc, .int .i64 x.msg.sec, .bool x.msg.leap, .int .i64 x.msg.cycle, .bool x.msg.next, .bool x.isin, .bool x.gone] 59) := (hg1.block _ (by simp) (by simp [Value.ownBlock])).trans XB; replace G1 := Lib.hid G1; replace ho1 := Lib.hid ho1; clear K1 hg1 hn1)
    | (refine step_joinT _ rfl (.tmp 5) (.tmp 9) 29 rfl V.heap.size 0 59 59 _ 10 64 Try.underlying29 infoThing rfl (by decide) (.slice (some ⟨V.heap.size + 1, 0, none⟩) 0 0) 0 [] rfl (by with_reducible exact OC) (.slice A T.length cp) T.length (flatT T) rfl (by with_reducible exact RC) (flatT_one1 T) (by omega) (by decide) (by with_reducible exact SC) ?_; intro v1 w1 ho1 hg1 hn1; have G1 := Grew.pushT GC OC (Nat.le_refl _) hg1; obtain ⟨K1, K2⟩ := KEEP.out w1 w1 G1; obtain ⟨mtb, k0, k1, k2, k3, k4, k5, k6, k7, k8, k9⟩ := K2; have mt := K1.at_.lt; have e1 := K1.at_.cell 1 _ rfl; have g1 := K1.at_.fz 1; rw [HL.out] at e1; rw [List.nil_append, Nat.zero_add] at ho1; have P1 := ho1; have Y1 : w1.heap[V.heap.size]? = some (.cells #[.int .i64 x.at_, .bool x.edge, .int .u8 x.msg.kind, .bool x.msg.utc, .int .i64 x.msg.sec, .bool x.msg.leap, .int .i64 x.msg.cycle, .bool x.msg.next, .bool x.isin, .bool x.gone] 59) := (hg1.block _ (by simp; omega) (by simp [Value.ownBlock])).trans XC; replace G1 := Lib.hid G1; replace ho1 := Lib.hid ho1; clear K1 hg1 hn1))
  all_goals exact bodyPost_end (results_none Try.results22 _ _ _) rfl hend.out
end Go.Proofs.Ytkijonnbngnliaa
