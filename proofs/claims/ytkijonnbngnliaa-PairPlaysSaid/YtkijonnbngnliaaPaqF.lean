/-
  The document's pairing: an edge comes.
-/
import Derived.Test.YtkijonnbngnliaaPaqB
import Derived.Test.YtkijonnbngnliaaPaqD
import Derived.Test.YtkijonnbngnliaaHeldN
namespace Go.Proofs.Ytkijonnbngnliaa
open Go.RowKit
set_option linter.unusedVariables false

/-- What a call leaves and tells. -/
def DocTold (r : Nat) (win : Int) (L : Value) (T' : List Tg) (o : Option Pd) (w : World) (e : Ending) (w' : World) : Prop :=
  ∃ L', e = .returned (.tuple #[pdV o, .bool o.isSome]) ∧ RefP w' r win L' T' ∧ (∀ b, L'.ownBlock = some b → L.ownBlock = some b ∨ w.heap.size ≤ b) ∧ Far (fun k => k = r) w w'
-- [EDGE
set_option maxRecDepth 100000 in
set_option maxHeartbeats 4000000 in
theorem ref17_Edge_old (w : World) (r : Nat) (win c : Int) (L : Value) (T : List Tg) (h : RefP w r win L T) (hl : T.length ≤ 100000) (hm : mayT T c = false) :
    Calls Try.prog 11 #[.pointer (some ⟨r, 0, none⟩), .int .i64 c] w (DocTold r win L (edgeT T win c) (edgeTP T win c) w) := by
  have HH := Lib.hid h
  have HM := fun w' (k : Grew w w') => Lib.hid (ref17_may w' r win L T c (h.grew k) hl)
  rw [hm] at HM
  have hrn : w.heap.size ≠ r := by have := h.at_.lt; omega
  have e1 : edgeT T win c = T := by unfold edgeT; rw [if_pos hm]
  have e2 : edgeTP T win c = none := by unfold edgeTP; rw [if_pos hm]
  rw [e1, e2]
  have HE : Hid (∀ W', Grew w W' → DocTold r win L T none w (.returned (.tuple #[.agg #[.int .i64 0, .int .u8 0, .bool false, .int .i64 0, .bool false, .int .i64 0, .bool false], .bool false])) W') := Lib.hid (fun W' k => ⟨L, rfl, HH.out.grew k, fun b e => .inl e, Far.of_grew k⟩)
  clear e1 e2 h hm
  go_enter Try.func11, Try.ntmps11
  go_upto_region 1 with fail
  generalize hV : w.alloc _ = V
  have gV : Grew w V := by rw [← hV]; exact (Grew.refl w).alloc _
  have HR : Hid (At V w.heap.size noPdC) := Lib.hid (by rw [← hV]; exact At.new w noPdC _)
  clear hV
  go_upto_region 2 with (go_at_call 21; refine (HM _ gV).out.mono ?_; rintro y w1 ⟨rfl, g1⟩)
  obtain ⟨⟨r0, r1, r2, r3, r4, r5, r6⟩, y0, y1, y2, y3, y4, y5, y6⟩ := At.seven (HR.out.grew g1)
  have ltr := (HR.out.grew g1).lt
  have HE2 : Hid (∀ W', Far (fun b => b = w.heap.size) w1 W' → DocTold r win L T none w (.returned (.tuple #[.agg #[.int .i64 0, .int .u8 0, .bool false, .int .i64 0, .bool false, .int .i64 0, .bool false], .bool false])) W') := Lib.hid (fun W' f => HE.out W' (f.grew (gV.trans g1) (fun k e => Nat.le_of_eq e.symm)))
  clear HE HM HR gV g1
  generalize w.heap.size = n0 at *
  go_wp2_with fail
  refine bodyPost_ret (by simp [results, Try.results11, go_sem, r0, r1, r2, r3, r4, r5, r6]; try rfl) rfl ?_
  refine HE2.out _ ?_
  repeat (first | (with_reducible exact Far.refl _ _) | (with_reducible refine Far.drewF ?_) | (with_reducible refine Far.setCell (F := fun b => b = n0) ?_ (p := ⟨n0, _, none⟩) rfl _))
set_option maxRecDepth 100000 in
set_option maxHeartbeats 4000000 in
theorem ref17_Edge_none (w : World) (r : Nat) (win c : Int) (L : Value) (T : List Tg) (h : RefP w r win L T) (hl : T.length ≤ 100000) (hm : mayT T c = true) (hw : waitI T T.length = none) :
    Calls Try.prog 11 #[.pointer (some ⟨r, 0, none⟩), .int .i64 c] w (DocTold r win L (edgeT T win c) (edgeTP T win c) w) := by
  have HH := Lib.hid h
  have HM := fun w' (k : Grew w w') => Lib.hid (ref17_may w' r win L T c (h.grew k) hl)
  have HW := fun w' (k : Grew w w') => Lib.hid (ref17_Waiting w' r win L T (h.grew k) hl)
  have HA : ∀ w', Grew w w' → Hid (Calls Try.prog 22 #[.pointer (some ⟨r, 0, none⟩), .agg #[.int .i64 c, .bool true, .int .u8 0, .bool false, .int .i64 0, .bool false, .int .i64 0, .bool false, .bool false, .bool false]] w' (AddP r win T ⟨c, true, noMs, false, false⟩ w')) := fun w' k => Lib.hid (ref17_add w' r win L T ⟨c, true, noMs, false, false⟩ (h.grew k) hl)
  rw [hm] at HM
  rw [hw] at HW
  unfold optI at HW
  simp only at HW
  have hrn : w.heap.size ≠ r := by have := h.at_.lt; omega
  have e1 : edgeT T win c = T ++ [(⟨c, true, noMs, false, false⟩ : Tg)] := by unfold edgeT; rw [hm, hw]; rfl
  have e2 : edgeTP T win c = none := by unfold edgeTP; rw [hm, hw]; rfl
  rw [e1, e2]
  clear e1 e2 h hm hw
  go_enter Try.func11, Try.ntmps11
  go_upto_region 1 with fail
  generalize hV : w.alloc _ = V
  have gV : Grew w V := by rw [← hV]; exact (Grew.refl w).alloc _
  have HR : Hid (At V w.heap.size noPdC) := Lib.hid (by rw [← hV]; exact At.new w noPdC _)
  clear hV
  go_upto_region 5 with (first
    | (go_at_call 21; refine (HM _ gV).out.mono ?_; rintro y w1 ⟨rfl, g1⟩; have GG := Lib.hid (gV.trans g1))
    | (go_at_call 14; refine (HW _ GG.out).out.mono ?_; rintro y w2 ⟨rfl, hw2⟩; subst hw2)
    | (go_at_call 22; refine (HA _ GG.out).out.mono ?_; rintro y w3 ⟨b, cc, rfl, h3, hb3, f3⟩; replace h3 := Lib.hid h3; replace f3 := Lib.hid f3))
  have HR3 := (HR.out.grew g1).far f3.out hrn
  obtain ⟨⟨r0, r1, r2, r3, r4, r5, r6⟩, y0, y1, y2, y3, y4, y5, y6⟩ := At.seven HR3
  have ltr := HR3.lt
  have hlt0 := (HR.out.grew g1).lt
  have HE2 : Hid (∀ W', Far (fun b => b = w.heap.size) w3 W' → DocTold r win L (T ++ [(⟨c, true, noMs, false, false⟩ : Tg)]) none w (.returned (.tuple #[.agg #[.int .i64 0, .int .u8 0, .bool false, .int .i64 0, .bool false, .int .i64 0, .bool false], .bool false])) W') := Lib.hid (fun W' f => by
    refine ⟨_, rfl, h3.out.far f (fun q => hrn q.symm) (fun k e => ?_), fun k e => .inr ?_, ((Far.of_grew GG.out).trans f3.out).beyond f (fun k e => .inr (by omega))⟩
    · simp only [Value.ownBlock, Option.some.injEq] at e
      omega
    · simp only [Value.ownBlock, Option.some.injEq] at e
      omega)
  clear HA HW HM HR gV g1 HR3 h3 f3
  generalize w.heap.size = n0 at *
  go_wp2_with fail
  refine bodyPost_ret (by simp [results, Try.results11, go_sem, r0, r1, r2, r3, r4, r5, r6]; try rfl) rfl ?_
  refine HE2.out _ ?_
  repeat (first | (with_reducible exact Far.refl _ _) | (with_reducible refine Far.drewF ?_) | (with_reducible refine Far.setCell (F := fun b => b = n0) ?_ (p := ⟨n0, _, none⟩) rfl _))
set_option maxRecDepth 100000 in
set_option maxHeartbeats 4000000 in
theorem ref17_Edge_late (w : World) (r : Nat) (win c : Int) (L : Value) (T : List Tg) (h : RefP w r win L T) (hl : T.length ≤ 100000) (hm : mayT T c = true) (i : Nat) (hw : waitI T T.length = some i) (hb : ∀ j, j < T.length → 0 ≤ (tg T j).at_ ∧ (tg T j).at_ ≤ 9223372036854775807) (hc : c ≤ 9223372036854775807) (hle : c - (tg T i).at_ > win) :
    Calls Try.prog 11 #[.pointer (some ⟨r, 0, none⟩), .int .i64 c] w (DocTold r win L (edgeT T win c) (edgeTP T win c) w) := by
  have HH := Lib.hid h
  have HM := fun w' (k : Grew w w') => Lib.hid (ref17_may w' r win L T c (h.grew k) hl)
  have HW := fun w' (k : Grew w w') => Lib.hid (ref17_Waiting w' r win L T (h.grew k) hl)
  have HA : ∀ w', Grew w w' → Hid (Calls Try.prog 22 #[.pointer (some ⟨r, 0, none⟩), .agg #[.int .i64 c, .bool true, .int .u8 0, .bool false, .int .i64 0, .bool false, .int .i64 0, .bool false, .bool false, .bool false]] w' (AddP r win T ⟨c, true, noMs, false, false⟩ w')) := fun w' k => Lib.hid (ref17_add w' r win L T ⟨c, true, noMs, false, false⟩ (h.grew k) hl)
  rw [hm] at HM
  rw [hw] at HW
  unfold optI at HW
  simp only at HW
  have hrn : w.heap.size ≠ r := by have := h.at_.lt; omega
  have e1 : edgeT T win c = ((T ++ [(⟨c, true, noMs, false, false⟩ : Tg)]).set i { tg T i with gone := true }) := by unfold edgeT; rw [hm, hw]; simp only [Bool.true_eq_false, if_false]; rw [if_pos hle]
  have e2 : edgeTP T win c = none := by unfold edgeTP; rw [hm, hw]; simp only [Bool.true_eq_false, if_false]; rw [if_pos hle]
  rw [e2]
  have HU := Lib.hid e1
  generalize edgeT T win c = U at HU e1 ⊢
  have hi := (waitI_lt hw).1
  have hbi := hb i hi
  have c0 : 0 ≤ c := by
    by_cases q : 0 ≤ c
    · exact q
    · unfold mayT at hm
      rw [decide_eq_false q] at hm
      cases hm
  have ew : IntKind.i64.wrap (c - (tg T i).at_) = c - (tg T i).at_ := IntWalk.i64_in _ (by omega)
  have hd : decide (win < c - (tg T i).at_) = true := decide_eq_true (by omega)
  clear e1 e2 h hm hw hle hb
  go_enter Try.func11, Try.ntmps11
  go_upto_region 1 with fail
  generalize hV : w.alloc _ = V
  have gV : Grew w V := by rw [← hV]; exact (Grew.refl w).alloc _
  have HR : Hid (At V w.heap.size noPdC) := Lib.hid (by rw [← hV]; exact At.new w noPdC _)
  clear hV
  go_upto_region 5 with (first
    | (go_at_call 21; refine (HM _ gV).out.mono ?_; rintro y w1 ⟨rfl, g1⟩; have GG := Lib.hid (gV.trans g1))
    | (go_at_call 14; refine (HW _ GG.out).out.mono ?_; rintro y w2 ⟨rfl, hw2⟩; subst hw2)
    | (go_at_call 22; refine (HA _ GG.out).out.mono ?_; rintro y w3 ⟨b, cc, rfl, h3, hb3, f3⟩; replace h3 := Lib.hid h3; replace f3 := Lib.hid f3))
  have hlt0 := (HR.out.grew g1).lt
  have hbn : w.heap.size ≠ b := by omega
  have hbr : b ≠ r := h3.out.ne b rfl
  have htl : tg (T ++ [(⟨c, true, noMs, false, false⟩ : Tg)]) i = tg T i := tg_left hi
  have h4 := Lib.hid (h3.out.set i 9 (by rw [List.length_append, List.length_singleton]; omega) (by decide) (.bool true) { tg T i with gone := true } (by rw [htl]; rfl))
  have HR4 := Lib.hid (((HR.out.grew g1).far f3.out hrn).far (Far.one w3 ⟨b, i * 10 + 9, none⟩ (.bool true)) hbn)
  have F4 := Lib.hid (((Far.of_grew GG.out).trans f3.out).beyond (Far.one w3 ⟨b, i * 10 + 9, none⟩ (.bool true)) (fun k e => .inr (by simp only at e; have := GG.out.size; omega)))
  have m0 : (0 : Int) ≤ i := by omega
  have m1 : (i : Int) < (T.length : Int) + 1 := by omega
  have d1 := h3.out.at_.cell 1 _ rfl
  have ltr3 := h3.out.at_.lt
  have c9 := h3.out.cell i 9 (by rw [List.length_append, List.length_singleton]; omega) (by decide) _ rfl
  have z9 := h3.out.fz (i * 10 + 9)
  clear HA HW HM HR
  go_upto_region 8 with fail
  generalize w3.setCell ⟨b, i * 10 + 9, none⟩ (.bool true) = w4 at h4 HR4 F4 ⊢
  have li : i < ((T ++ [(⟨c, true, noMs, false, false⟩ : Tg)]).set i { tg T i with gone := true }).length := by rw [List.length_set, List.length_append, List.length_singleton]; omega
  have lj : i < (T ++ [(⟨c, true, noMs, false, false⟩ : Tg)]).length := by rw [List.length_append, List.length_singleton]; omega
  have ca := h4.out.cell i 0 li (by decide) (.int .i64 (tg T i).at_) (by rw [tg_set lj, if_pos rfl]; rfl)
  rw [Nat.add_zero] at ca
  have d4 := h4.out.at_.cell 1 _ rfl
  have d5 := h4.out.at_.cell 0 _ rfl
  have lt4 := h4.out.at_.lt
  obtain ⟨⟨r0, r1, r2, r3, r4, r5, r6⟩, y0, y1, y2, y3, y4, y5, y6⟩ := At.seven HR4.out
  have ltr := HR4.out.lt
  have HE2 : Hid (∀ W', Far (fun b => b = w.heap.size) w4 W' → DocTold r win L U none w (.returned (.tuple #[.agg #[.int .i64 0, .int .u8 0, .bool false, .int .i64 0, .bool false, .int .i64 0, .bool false], .bool false])) W') := Lib.hid (fun W' f => by
    rw [HU.out]
    refine ⟨_, rfl, h4.out.far f (fun q => hrn q.symm) (fun k e => ?_), fun k e => .inr ?_, F4.out.beyond f (fun k e => .inr (by omega))⟩
    · simp only [Value.ownBlock, Option.some.injEq] at e
      omega
    · simp only [Value.ownBlock, Option.some.injEq] at e
      omega)
  clear h4 HR4 F4 h3 f3 GG g1 gV
  generalize w.heap.size = n0 at *
  go_quiet (fail)
  go_wp2_with fail
  refine bodyPost_ret (by simp [results, Try.results11, go_sem, r0, r1, r2, r3, r4, r5, r6]; try rfl) rfl ?_
  refine HE2.out _ ?_
  repeat (first | (with_reducible exact Far.refl _ _) | (with_reducible refine Far.drewF ?_) | (with_reducible refine Far.setCell (F := fun b => b = n0) ?_ (p := ⟨n0, _, none⟩) rfl _))
  exact Far.of_grew ((Grew.refl w4).drewN nq)
set_option maxRecDepth 100000 in
set_option maxHeartbeats 4000000 in
theorem ref17_Edge_met (w : World) (r : Nat) (win c : Int) (L : Value) (T : List Tg) (h : RefP w r win L T) (hl : T.length ≤ 100000) (hm : mayT T c = true) (i : Nat) (hw : waitI T T.length = some i) (hb : ∀ j, j < T.length → 0 ≤ (tg T j).at_ ∧ (tg T j).at_ ≤ 9223372036854775807) (hc : c ≤ 9223372036854775807) (hle : ¬ c - (tg T i).at_ > win) :
    Calls Try.prog 11 #[.pointer (some ⟨r, 0, none⟩), .int .i64 c] w (DocTold r win L (edgeT T win c) (edgeTP T win c) w) := by
  have HH := Lib.hid h
  have HM := fun w' (k : Grew w w') => Lib.hid (ref17_may w' r win L T c (h.grew k) hl)
  have HW := fun w' (k : Grew w w') => Lib.hid (ref17_Waiting w' r win L T (h.grew k) hl)
  have HA : ∀ w', Grew w w' → Hid (Calls Try.prog 22 #[.pointer (some ⟨r, 0, none⟩), .agg #[.int .i64 c, .bool true, .int .u8 0, .bool false, .int .i64 0, .bool false, .int .i64 0, .bool false, .bool false, .bool false]] w' (AddP r win T ⟨c, true, noMs, false, false⟩ w')) := fun w' k => Lib.hid (ref17_add w' r win L T ⟨c, true, noMs, false, false⟩ (h.grew k) hl)
  rw [hm] at HM
  rw [hw] at HW
  unfold optI at HW
  simp only at HW
  have hrn : w.heap.size ≠ r := by have := h.at_.lt; omega
  have e1 : edgeT T win c = (((T ++ [(⟨c, true, noMs, false, false⟩ : Tg)]).set i { tg T i with gone := true }).set T.length (⟨c, true, noMs, true, false⟩ : Tg)) := by unfold edgeT; rw [hm, hw]; simp only [Bool.true_eq_false, if_false]; rw [if_neg hle]
  have e2 : edgeTP T win c = some ⟨c, (tg T i).msg⟩ := by unfold edgeTP; rw [hm, hw]; simp only [Bool.true_eq_false, if_false]; rw [if_neg hle]
  rw [e2]
  have HU := Lib.hid e1
  generalize edgeT T win c = U at HU e1 ⊢
  have hi := (waitI_lt hw).1
  have hbi := hb i hi
  have c0 : 0 ≤ c := by
    by_cases q : 0 ≤ c
    · exact q
    · unfold mayT at hm
      rw [decide_eq_false q] at hm
      cases hm
  have ew : IntKind.i64.wrap (c - (tg T i).at_) = c - (tg T i).at_ := IntWalk.i64_in _ (by omega)
  have hd : decide (win < c - (tg T i).at_) = false := decide_eq_false (by omega)
  clear e1 e2 h hm hw hle hb
  go_enter Try.func11, Try.ntmps11
  go_upto_region 1 with fail
  generalize hV : w.alloc _ = V
  have gV : Grew w V := by rw [← hV]; exact (Grew.refl w).alloc _
  have HR : Hid (At V w.heap.size noPdC) := Lib.hid (by rw [← hV]; exact At.new w noPdC _)
  clear hV
  go_upto_region 5 with (first
    | (go_at_call 21; refine (HM _ gV).out.mono ?_; rintro y w1 ⟨rfl, g1⟩; have GG := Lib.hid (gV.trans g1))
    | (go_at_call 14; refine (HW _ GG.out).out.mono ?_; rintro y w2 ⟨rfl, hw2⟩; subst hw2)
    | (go_at_call 22; refine (HA _ GG.out).out.mono ?_; rintro y w3 ⟨b, cc, rfl, h3, hb3, f3⟩; replace h3 := Lib.hid h3; replace f3 := Lib.hid f3))
  have hlt0 := (HR.out.grew g1).lt
  have hbn : w.heap.size ≠ b := by omega
  have hbr : b ≠ r := h3.out.ne b rfl
  have htl : tg (T ++ [(⟨c, true, noMs, false, false⟩ : Tg)]) i = tg T i := tg_left hi
  have h4 := Lib.hid (h3.out.set i 9 (by rw [List.length_append, List.length_singleton]; omega) (by decide) (.bool true) { tg T i with gone := true } (by rw [htl]; rfl))
  have HR4 := Lib.hid (((HR.out.grew g1).far f3.out hrn).far (Far.one w3 ⟨b, i * 10 + 9, none⟩ (.bool true)) hbn)
  have F4 := Lib.hid (((Far.of_grew GG.out).trans f3.out).beyond (Far.one w3 ⟨b, i * 10 + 9, none⟩ (.bool true)) (fun k e => .inr (by simp only at e; have := GG.out.size; omega)))
  have m0 : (0 : Int) ≤ i := by omega
  have m1 : (i : Int) < (T.length : Int) + 1 := by omega
  have d1 := h3.out.at_.cell 1 _ rfl
  have ltr3 := h3.out.at_.lt
  have c9 := h3.out.cell i 9 (by rw [List.length_append, List.length_singleton]; omega) (by decide) _ rfl
  have z9 := h3.out.fz (i * 10 + 9)
  clear HA HW HM HR
  go_upto_region 8 with fail
  generalize w3.setCell ⟨b, i * 10 + 9, none⟩ (.bool true) = w4 at h4 HR4 F4 ⊢
  have li : i < ((T ++ [(⟨c, true, noMs, false, false⟩ : Tg)]).set i { tg T i with gone := true }).length := by rw [List.length_set, List.length_append, List.length_singleton]; omega
  have lj : i < (T ++ [(⟨c, true, noMs, false, false⟩ : Tg)]).length := by rw [List.length_append, List.length_singleton]; omega
  have ca := h4.out.cell i 0 li (by decide) (.int .i64 (tg T i).at_) (by rw [tg_set lj, if_pos rfl]; rfl)
  rw [Nat.add_zero] at ca
  have d4 := h4.out.at_.cell 1 _ rfl
  have d5 := h4.out.at_.cell 0 _ rfl
  have lt4 := h4.out.at_.lt
  have ln : T.length < ((T ++ [(⟨c, true, noMs, false, false⟩ : Tg)]).set i { tg T i with gone := true }).length := by rw [List.length_set, List.length_append, List.length_singleton]; omega
  have hne : T.length ≠ i := by omega
  clear h3 f3 g1 gV
  go_upto_region 8 with fail
  go_quiet (fail)
  go_upto_region 10 with fail
  have gq : Grew w4 (w4.drewN nq) := (Grew.refl w4).drewN nq
  generalize w4.drewN nq = w5 at gq ⊢
  have h5 := Lib.hid (h4.out.grew gq)
  have HR5 := Lib.hid (HR4.out.grew gq)
  have F5 := Lib.hid (F4.out.trans (Far.of_grew gq))
  clear ca d4 d5 lt4 h4 HR4 F4 gq
  have z8 := h5.out.fz (T.length * 10 + 8)
  have c8 := h5.out.cell T.length 8 ln (by decide) (.bool false) (by rw [tg_set lj, if_neg hne, tg_new]; rfl)
  have ltr5 := h5.out.at_.lt
  have el3 : IntKind.i64.wrap (T.length : Int) = (T.length : Int) := IntWalk.i64_in _ (by omega)
  have el2 : (T.length : Int) < (T.length : Int) + 1 := by omega
  have el0 : (0 : Int) ≤ T.length := by omega
  have KS : ∀ w', Grew w5 w' → Hid (w'.cell? ⟨r, 1, none⟩ = some (.slice (some ⟨b, 0, none⟩) (T.length + 1) cc)) := fun w' k => Lib.hid ((h5.out.grew k).at_.cell 1 _ rfl)
  have KT : ∀ w', Grew w5 w' → ∀ u, Hid ((w'.setCell ⟨b, T.length * 10 + 8, none⟩ u).cell? ⟨r, 1, none⟩ = some (.slice (some ⟨b, 0, none⟩) (T.length + 1) cc)) := fun w' k u => Lib.hid (((h5.out.grew k).at_.far (Far.one w' ⟨b, T.length * 10 + 8, none⟩ u) (fun q => hbr q.symm)).cell 1 _ rfl)
  refine wp_region_held_drew (S := (fun w' => w'.cell? ⟨r, 1, none⟩ = some (.slice (some ⟨b, 0, none⟩) (T.length + 1) cc))) (by kernel_rfl) (by first | exact (KS _ ((Grew.refl w5).drew)).out | exact (KT _ ((Grew.refl w5).drew) _).out) (fun hHeld => ?_)
  refine take_at (i := 0) (d := (some 44)) (v := ?_) rfl rfl (by kernel_rfl) (by kernel_rfl) (by kernel_rfl) (fun _ _ _ h => h) (Or.inl ⟨by rfl, ?_⟩) (by assumption) ?_
  rotate_left; · ((intro w hSw; (try dsimp only at hSw); go_simp) <;> with_reducible rfl)
  simp only [Act.put, List.setIfInBounds_toArray, List.set_cons_zero, List.set_cons_succ]
  refine take_at (i := 1) (d := (some 45)) (v := ?_) rfl rfl (by kernel_rfl) (by kernel_rfl) (by kernel_rfl) (fun _ _ _ h => h) (Or.inl ⟨by rfl, ?_⟩) (by assumption) ?_
  rotate_left; · ((intro w hSw; (try dsimp only at hSw); go_simp) <;> with_reducible rfl)
  simp only [Act.put, List.setIfInBounds_toArray, List.set_cons_zero, List.set_cons_succ]
  refine take_at (i := 2) (d := (some 46)) (v := ?_) rfl rfl (by kernel_rfl) (by kernel_rfl) (by kernel_rfl) (fun _ _ _ h => h) (Or.inl ⟨by rfl, ?_⟩) (by assumption) ?_
  rotate_left; · ((intro w hSw; (try dsimp only at hSw); go_simp) <;> with_reducible rfl)
  simp only [Act.put, List.setIfInBounds_toArray, List.set_cons_zero, List.set_cons_succ]
  refine take_at (i := 3) (d := (some 47)) (v := ?_) rfl rfl (by kernel_rfl) (by kernel_rfl) (by kernel_rfl) (fun _ _ _ h => h) (Or.inl ⟨by rfl, ?_⟩) (by assumption) ?_
  rotate_left; · ((intro w hSw; (try dsimp only at hSw); go_simp) <;> with_reducible rfl)
  simp only [Act.put, List.setIfInBounds_toArray, List.set_cons_zero, List.set_cons_succ]
  refine take_at (i := 4) (d := (some 48)) (v := ?_) rfl rfl (by kernel_rfl) (by kernel_rfl) (by kernel_rfl) (fun _ _ _ h => h) (Or.inl ⟨by rfl, ?_⟩) (by assumption) ?_
  rotate_left; · ((intro w hSw; (try dsimp only at hSw); go_simp) <;> with_reducible rfl)
  simp only [Act.put, List.setIfInBounds_toArray, List.set_cons_zero, List.set_cons_succ]
  refine take_at (i := 5) (d := (some 49)) (v := ?_) rfl rfl (by kernel_rfl) (by kernel_rfl) (by kernel_rfl) (fun _ _ _ h => h) (Or.inl ⟨by rfl, ?_⟩) (by assumption) ?_
  rotate_left; · ((intro w hSw; (try dsimp only at hSw); go_simp) <;> with_reducible rfl)
  simp only [Act.put, List.setIfInBounds_toArray, List.set_cons_zero, List.set_cons_succ]
  refine take_at (i := 6) (d := (some 50)) (v := ?_) rfl rfl (by kernel_rfl) (by kernel_rfl) (by kernel_rfl) (fun _ _ _ h => h) (Or.inl ⟨by rfl, ?_⟩) (by assumption) ?_
  rotate_left; · ((intro w hSw; (try dsimp only at hSw); go_simp) <;> with_reducible rfl)
  simp only [Act.put, List.setIfInBounds_toArray, List.set_cons_zero, List.set_cons_succ]
  refine take_at (i := 7) (d := (some 51)) (v := ?_) rfl rfl (by kernel_rfl) (by kernel_rfl) (by kernel_rfl) (fun _ _ _ h => h) (Or.inl ⟨by rfl, ?_⟩) (by assumption) ?_
  rotate_left; · ((intro w hSw; (try dsimp only at hSw); go_simp) <;> with_reducible rfl)
  simp only [Act.put, List.setIfInBounds_toArray, List.set_cons_zero, List.set_cons_succ]
  refine take_at (i := 8) (d := (some 52)) (v := ?_) rfl rfl (by kernel_rfl) (by kernel_rfl) (by kernel_rfl) (fun _ _ _ h => h) (Or.inl ⟨by rfl, ?_⟩) (by assumption) ?_
  rotate_left; · ((intro w hSw; (try dsimp only at hSw); go_simp) <;> with_reducible rfl)
  simp only [Act.put, List.setIfInBounds_toArray, List.set_cons_zero, List.set_cons_succ]
  refine take_at (i := 9) (d := (some 53)) (v := ?_) rfl rfl (by kernel_rfl) (by kernel_rfl) (by kernel_rfl) (fun _ _ _ h => h) (Or.inl ⟨by rfl, ?_⟩) (by assumption) ?_
  rotate_left; · ((intro w hSw; (try dsimp only at hSw); go_simp) <;> with_reducible rfl)
  simp only [Act.put, List.setIfInBounds_toArray, List.set_cons_zero, List.set_cons_succ]
  refine take_at (i := 10) (d := (some 54)) (v := ?_) rfl rfl (by kernel_rfl) (by kernel_rfl) (by kernel_rfl) (fun _ _ _ h => h) (Or.inl ⟨by rfl, ?_⟩) (by assumption) ?_
  rotate_left; · ((intro w hSw; (try dsimp only at hSw); go_simp) <;> with_reducible rfl)
  simp only [Act.put, List.setIfInBounds_toArray, List.set_cons_zero, List.set_cons_succ]
  refine take_at (i := 11) (d := (some 55)) (v := ?_) rfl rfl (by kernel_rfl) (by kernel_rfl) (by kernel_rfl) (fun _ _ _ h => h) (Or.inl ⟨by rfl, ?_⟩) (by assumption) ?_
  rotate_left; · ((intro w hSw; (try dsimp only at hSw); go_simp) <;> with_reducible rfl)
  simp only [Act.put, List.setIfInBounds_toArray, List.set_cons_zero, List.set_cons_succ]
  refine wpAnyH_ready (rs := [12]) (by kernel_rfl) (by simp) ?_
  refine AllReadyH.cons rfl (fun K hK => ?_) AllReadyH.nil
  go_simp
  go_wp2_with fail
  refine hK.out _ _ (by first | exact (KS _ ((Grew.refl w5).drew)).out | exact (KT _ ((Grew.refl w5).drew) _).out) (fun hHeld => ?_)
  clear hK K
  refine wpAnyH_done (by kernel_rfl) ?_ _
  have h6 := Lib.hid (h5.out.set T.length 8 ln (by decide) (.bool true) (⟨c, true, noMs, true, false⟩ : Tg) (by rw [tg_set lj, if_neg hne, tg_new]; rfl))
  have F6 := Lib.hid (F5.out.beyond (Far.one w5 ⟨b, T.length * 10 + 8, none⟩ (.bool true)) (fun k e => .inr (by simp only at e; have := GG.out.size; omega)))
  have HR6 := Lib.hid (HR5.out.far (Far.one w5 ⟨b, T.length * 10 + 8, none⟩ (.bool true)) hbn)
  clear KS KT
  go_upto_region 11 with fail
  generalize w5.setCell ⟨b, T.length * 10 + 8, none⟩ (.bool true) = w6 at h6 F6 HR6 ⊢
  have lk : i < (((T ++ [(⟨c, true, noMs, false, false⟩ : Tg)]).set i { tg T i with gone := true }).set T.length (⟨c, true, noMs, true, false⟩ : Tg)).length := by rw [List.length_set]; exact li
  have hti : tg (((T ++ [(⟨c, true, noMs, false, false⟩ : Tg)]).set i { tg T i with gone := true }).set T.length (⟨c, true, noMs, true, false⟩ : Tg)) i = { tg T i with gone := true } := by rw [tg_set ln, if_neg (fun q => hne q.symm), tg_set lj, if_pos rfl]
  have v2 := h6.out.cell i 2 lk (by decide) (.int .u8 (tg T i).msg.kind) (by rw [hti]; rfl)
  have v3 := h6.out.cell i 3 lk (by decide) (.bool (tg T i).msg.utc) (by rw [hti]; rfl)
  have v4 := h6.out.cell i 4 lk (by decide) (.int .i64 (tg T i).msg.sec) (by rw [hti]; rfl)
  have v5 := h6.out.cell i 5 lk (by decide) (.bool (tg T i).msg.leap) (by rw [hti]; rfl)
  have v6 := h6.out.cell i 6 lk (by decide) (.int .i64 (tg T i).msg.cycle) (by rw [hti]; rfl)
  have v7 := h6.out.cell i 7 lk (by decide) (.bool (tg T i).msg.next) (by rw [hti]; rfl)
  have v1 := h6.out.at_.cell 1 _ rfl
  have lt6 := h6.out.at_.lt
  obtain ⟨⟨r0, r1, r2, r3, r4, r5, r6⟩, y0, y1, y2, y3, y4, y5, y6⟩ := At.seven HR6.out
  have ltr := HR6.out.lt
  have HE2 : Hid (∀ W', Far (fun b => b = w.heap.size) w6 W' → DocTold r win L U (some ⟨c, (tg T i).msg⟩) w (.returned (.tuple #[.agg #[.int .i64 c, .int .u8 (tg T i).msg.kind, .bool (tg T i).msg.utc, .int .i64 (tg T i).msg.sec, .bool (tg T i).msg.leap, .int .i64 (tg T i).msg.cycle, .bool (tg T i).msg.next], .bool true])) W') := Lib.hid (fun W' f => by
    rw [HU.out]
    refine ⟨_, rfl, h6.out.far f (fun q => hrn q.symm) (fun k e => ?_), fun k e => .inr ?_, F6.out.beyond f (fun k e => .inr (by omega))⟩
    · simp only [Value.ownBlock, Option.some.injEq] at e
      omega
    · simp only [Value.ownBlock, Option.some.injEq] at e
      omega)
  clear h6 F6 HR6 h5 HR5 F5 hti lk ln lj li hHeld z8 c8
  generalize w.heap.size = n0 at *
  go_wp2_with fail
  refine bodyPost_ret (by simp [results, Try.results11, go_sem, r0, r1, r2, r3, r4, r5, r6]; try rfl) rfl ?_
  refine HE2.out _ ?_
  repeat (first | (with_reducible exact Far.refl _ _) | (with_reducible refine Far.drewF ?_) | (with_reducible refine Far.setCell (F := fun b => b = n0) ?_ (p := ⟨n0, _, none⟩) rfl _))
/-- An edge comes to the document's list. -/
theorem ref17_Edge (w : World) (r : Nat) (win c : Int) (L : Value) (T : List Tg) (h : RefP w r win L T) (hl : T.length ≤ 100000) (hb : ∀ j, j < T.length → 0 ≤ (tg T j).at_ ∧ (tg T j).at_ ≤ 9223372036854775807) (hc : c ≤ 9223372036854775807) :
    Calls Try.prog 11 #[.pointer (some ⟨r, 0, none⟩), .int .i64 c] w (DocTold r win L (edgeT T win c) (edgeTP T win c) w) := by
  cases hm : mayT T c with
  | false => exact ref17_Edge_old w r win c L T h hl hm
  | true =>
    cases hw : waitI T T.length with
    | none => exact ref17_Edge_none w r win c L T h hl hm hw
    | some i =>
      by_cases hle : c - (tg T i).at_ > win
      · exact ref17_Edge_late w r win c L T h hl hm i hw hb hc hle
      · exact ref17_Edge_met w r win c L T h hl hm i hw hb hc hle
-- EDGE]
end Go.Proofs.Ytkijonnbngnliaa
