/-
  The document's pairing: a message comes that is not Next, where the last edge is in no pair.
-/
import Derived.Test.YtkijonnbngnliaaPaqG
namespace Go.Proofs.Ytkijonnbngnliaa
open Go.RowKit
set_option linter.unusedVariables false

-- [MSG
set_option maxRecDepth 100000 in
set_option maxHeartbeats 4000000 in
theorem ref17_Message_far (w : World) (r : Nat) (win m : Int) (x : Ms) (L : Value) (T : List Tg) (h : RefP w r win L T) (hl : T.length ≤ 100000) (hm : mayT T m = true) (hb : ∀ j, j < T.length → 0 ≤ (tg T j).at_ ∧ (tg T j).at_ ≤ 9223372036854775807) (hc : m ≤ 9223372036854775807) (hkw : 100000000 ≤ win ∧ win ≤ 900000000) (hx : x.next = false) (e : Nat) (he : lastI T T.length = some e) (hi : (tg T e).isin = false) (hf : m - (tg T e).at_ > win) (hq : meetsT T win m x = none) :
    Calls Try.prog 12 #[.pointer (some ⟨r, 0, none⟩), .int .i64 m, x.value] w (DocTold r win L (msgT T win m x) (msgTP T win m x) w) := by
  have HH := Lib.hid h
  have c0 : 0 ≤ m := by
    by_cases q : 0 ≤ m
    · exact q
    · unfold mayT at hm
      rw [decide_eq_false q] at hm
      cases hm
  have e1 : msgT T win m x = T ++ [(⟨m, false, x, false, false⟩ : Tg)] := by unfold msgT; rw [hm, hq]; rfl
  have e2 : msgTP T win m x = none := by unfold msgTP; rw [hm, hq]; rfl
  obtain ⟨xk, xu, xs, xl, xc, xn⟩ := x
  obtain rfl : xn = false := hx
  have HM := fun w' (k : Grew w w') => Lib.hid (ref17_may w' r win L T m (h.grew k) hl)
  have HLa := fun w' (k : Grew w w') => Lib.hid (ref17_last w' r win L T (h.grew k) hl)
  have HK := fun w' (k : Grew w w') => Lib.hid (ref17_kept w' r win L T (h.grew k) hl hb)
  have HC := fun w' g L' (q : RefE w' g L' (keptI T T.length)) => Lib.hid (ref16_Count w' g L' (keptI T T.length) (m - win) m q (keptI_len T _))
  have HA : ∀ w', Grew w w' → Hid (Calls Try.prog 22 #[.pointer (some ⟨r, 0, none⟩), .agg #[.int .i64 m, .bool false, .int .u8 xk, .bool xu, .int .i64 xs, .bool xl, .int .i64 xc, .bool false, .bool false, .bool false]] w' (AddP r win T ⟨m, false, ⟨xk, xu, xs, xl, xc, false⟩, false, false⟩ w')) := fun w' k => Lib.hid (ref17_add w' r win L T ⟨m, false, ⟨xk, xu, xs, xl, xc, false⟩, false, false⟩ (h.grew k) hl)
  rw [hm] at HM
  have hel := (lastI_lt he).1
  have hbe := hb e hel
  rw [he] at HLa
  unfold optI at HLa
  simp only at HLa
  generalize cntE (keptI T T.length) (m - win) m (keptI T T.length).length = N at HC
  generalize keptI T T.length = K at HK HC
  have ew : IntKind.i64.wrap (m - win) = m - win := IntWalk.i64_in _ (by omega)
  rw [e2]
  have HU := Lib.hid e1
  generalize msgT T win m ⟨xk, xu, xs, xl, xc, false⟩ = U at HU e1 ⊢
  have hrn : w.heap.size + 1 ≠ r := by have := h.at_.lt; omega
  have hxr : w.heap.size ≠ r := by have := h.at_.lt; omega
  unfold Ms.value
  have ew2 : IntKind.i64.wrap (m - (tg T e).at_) = m - (tg T e).at_ := IntWalk.i64_in _ (by omega)
  have hin := Lib.hid hi
  clear hi he
  have dfar : decide (win < m - (tg T e).at_) = true := decide_eq_true (by omega)
  clear hf
  clear e1 e2 h hm hb hq
  go_enter Try.func12, Try.ntmps12
  go_upto_region 1 with fail
  generalize hV : World.alloc (World.alloc _ _) _ = V
  have gV : Grew w V := by rw [← hV]; exact ((Grew.refl w).alloc _).alloc _
  have BX : Hid (At V w.heap.size (msC ⟨xk, xu, xs, xl, xc, false⟩)) := Lib.hid (by
    rw [← hV]
    exact (At.new w (msC ⟨xk, xu, xs, xl, xc, false⟩) _).grew ((Grew.refl _).alloc _))
  have HR : Hid (At V (w.heap.size + 1) noPdC) := Lib.hid (by
    have := At.new (w.alloc (.cells (msC ⟨xk, xu, xs, xl, xc, false⟩).toArray 33)) noPdC 38
    rw [show (w.alloc (.cells (msC ⟨xk, xu, xs, xl, xc, false⟩).toArray 33)).heap.size = w.heap.size + 1 by simp] at this
    rw [← hV]; exact this)
  clear hV
  go_upto_region 4 with (first
    | (go_at_call 21; refine (HM _ gV).out.mono ?_; rintro y w1 ⟨rfl, g1⟩; have GG := Lib.hid (gV.trans g1))
    | (go_at_call 23; refine (HLa _ GG.out).out.mono ?_; rintro y w2 ⟨rfl, hw2⟩; subst hw2))
  have HAT := Lib.hid (HH.out.at_.grew GG.out)
  have KS : ∀ w', Grew w1 w' → Hid (w'.cell? ⟨r, 0, none⟩ = some (.int .i64 win)) := fun w' k => Lib.hid ((HAT.out.grew k).cell 0 _ rfl)
  have ltw1 := HAT.out.lt
  have G : Grew w1 w1.drew := (Grew.refl w1).drew
  go_region_held3 (fun w' => w'.cell? ⟨r, 0, none⟩ = some (.int .i64 win)) (exact (KS _ G).out) ((first
    | (go_at_call 25; refine (HC _ _ _ hE.out).out.mono ?_; rintro z w4 ⟨rfl, hw4⟩; subst hw4)
    | (go_at_call 24; refine (HK _ (GG.out.trans G)).out.mono ?_; rintro z w3 ⟨gE, LE, rfl, _, hE, g3⟩; replace hE := Lib.hid hE; replace G := G.trans g3)))
  go_upto_region 5 with fail
  have GW := Lib.hid (GG.out.trans G)
  obtain ⟨u0, u1, u2, u3, u4, u5⟩ := At.six (BX.out.grew (g1.trans G))
  have ltu := (BX.out.grew (g1.trans G)).lt
  go_upto_region 6 with (go_at_call 22; refine (HA _ GW.out).out.mono ?_; rintro y w5 ⟨b, cc, rfl, h5, hb5, f5⟩; replace h5 := Lib.hid h5; replace f5 := Lib.hid f5)
  have HR5 := Lib.hid ((HR.out.grew (g1.trans G)).far f5.out hrn)
  have BX5 := Lib.hid ((BX.out.grew (g1.trans G)).far f5.out hxr)
  have F5 := Lib.hid ((Far.of_grew GW.out).trans f5.out)
  have sz1 := (HR.out.grew (g1.trans G)).lt
  have hbn : w.heap.size + 1 ≠ b := by omega
  have hbx : w.heap.size ≠ b := by omega
  have hbr : b ≠ r := h5.out.ne b rfl
  have d0 := h5.out.at_.cell 0 _ rfl
  have d1 := h5.out.at_.cell 1 _ rfl
  have lt5 := h5.out.at_.lt
  have t5 := BX5.out.cell 5 _ rfl
  have ltx := BX5.out.lt
  clear HA HK HC HM HLa HR u0 u1 u2 u3 u4 u5 ltu g1 gV KS HAT BX
  have lj : e < (T ++ [(⟨m, false, ⟨xk, xu, xs, xl, xc, false⟩, false, false⟩ : Tg)]).length := by rw [List.length_append, List.length_singleton]; omega
  have htl : tg (T ++ [(⟨m, false, ⟨xk, xu, xs, xl, xc, false⟩, false, false⟩ : Tg)]) e = tg T e := tg_left hel
  have ca := h5.out.cell e 0 lj (by decide) (.int .i64 (tg T e).at_) (by rw [htl]; rfl)
  rw [Nat.add_zero] at ca
  have c8 := h5.out.cell e 8 lj (by decide) (.bool (tg T e).isin) (by rw [htl]; rfl)
  rw [hin.out] at c8
  have i0 : (0 : Int) ≤ e := by omega
  have i1 : (e : Int) < (T.length : Int) + 1 := by omega
  have de : decide ((e : Int) < 0) = false := decide_eq_false (by omega)
  obtain ⟨⟨r0, r1, r2, r3, r4, r5, r6⟩, y0, y1, y2, y3, y4, y5, y6⟩ := At.seven HR5.out
  have ltr := HR5.out.lt
  have HE2 : Hid (∀ W', Far (fun b => b = w.heap.size + 1) w5 W' → DocTold r win L U none w (.returned (.tuple #[.agg #[.int .i64 0, .int .u8 0, .bool false, .int .i64 0, .bool false, .int .i64 0, .bool false], .bool false])) W') := Lib.hid (fun W' f => by
    rw [HU.out]
    refine ⟨_, rfl, h5.out.far f (fun q => hrn q.symm) (fun k e => ?_), fun k e => .inr ?_, F5.out.beyond f (fun k e => .inr (by omega))⟩
    · simp only [Value.ownBlock, Option.some.injEq] at e
      omega
    · simp only [Value.ownBlock, Option.some.injEq] at e
      have := GW.out.size
      omega)
  clear h5 HR5 F5 f5 BX5 GG GW
  generalize w.heap.size + 1 = n0 at *
  go_quiet (fail)
  go_wp2_with fail
  refine bodyPost_ret (by simp [results, Try.results12, go_sem, r0, r1, r2, r3, r4, r5, r6]; try rfl) rfl ?_
  refine HE2.out _ ?_
  repeat (first | (with_reducible exact Far.refl _ _) | (with_reducible refine Far.drewF ?_) | (with_reducible refine Far.setCell (F := fun b => b = n0) ?_ (p := ⟨n0, _, none⟩) rfl _))
  exact Far.of_grew ((Grew.refl w5).drewN nq)
set_option maxRecDepth 100000 in
set_option maxHeartbeats 4000000 in
theorem ref17_Message_many (w : World) (r : Nat) (win m : Int) (x : Ms) (L : Value) (T : List Tg) (h : RefP w r win L T) (hl : T.length ≤ 100000) (hm : mayT T m = true) (hb : ∀ j, j < T.length → 0 ≤ (tg T j).at_ ∧ (tg T j).at_ ≤ 9223372036854775807) (hc : m ≤ 9223372036854775807) (hkw : 100000000 ≤ win ∧ win ≤ 900000000) (hx : x.next = false) (e : Nat) (he : lastI T T.length = some e) (hi : (tg T e).isin = false) (hf : ¬ m - (tg T e).at_ > win) (hn : cntE (keptI T T.length) (m - win) m (keptI T T.length).length ≠ 1) (hq : meetsT T win m x = none) :
    Calls Try.prog 12 #[.pointer (some ⟨r, 0, none⟩), .int .i64 m, x.value] w (DocTold r win L (msgT T win m x) (msgTP T win m x) w) := by
  have HH := Lib.hid h
  have c0 : 0 ≤ m := by
    by_cases q : 0 ≤ m
    · exact q
    · unfold mayT at hm
      rw [decide_eq_false q] at hm
      cases hm
  have e1 : msgT T win m x = T ++ [(⟨m, false, x, false, false⟩ : Tg)] := by unfold msgT; rw [hm, hq]; rfl
  have e2 : msgTP T win m x = none := by unfold msgTP; rw [hm, hq]; rfl
  obtain ⟨xk, xu, xs, xl, xc, xn⟩ := x
  obtain rfl : xn = false := hx
  have HM := fun w' (k : Grew w w') => Lib.hid (ref17_may w' r win L T m (h.grew k) hl)
  have HLa := fun w' (k : Grew w w') => Lib.hid (ref17_last w' r win L T (h.grew k) hl)
  have HK := fun w' (k : Grew w w') => Lib.hid (ref17_kept w' r win L T (h.grew k) hl hb)
  have HC := fun w' g L' (q : RefE w' g L' (keptI T T.length)) => Lib.hid (ref16_Count w' g L' (keptI T T.length) (m - win) m q (keptI_len T _))
  have HA : ∀ w', Grew w w' → Hid (Calls Try.prog 22 #[.pointer (some ⟨r, 0, none⟩), .agg #[.int .i64 m, .bool false, .int .u8 xk, .bool xu, .int .i64 xs, .bool xl, .int .i64 xc, .bool false, .bool false, .bool false]] w' (AddP r win T ⟨m, false, ⟨xk, xu, xs, xl, xc, false⟩, false, false⟩ w')) := fun w' k => Lib.hid (ref17_add w' r win L T ⟨m, false, ⟨xk, xu, xs, xl, xc, false⟩, false, false⟩ (h.grew k) hl)
  rw [hm] at HM
  have hel := (lastI_lt he).1
  have hbe := hb e hel
  rw [he] at HLa
  unfold optI at HLa
  simp only at HLa
  generalize cntE (keptI T T.length) (m - win) m (keptI T T.length).length = N at HC hn
  have hN1 : ((N : Int) == 1) = false := by rw [beq_eq_false_iff_ne]; omega
  clear hn
  generalize keptI T T.length = K at HK HC
  have ew : IntKind.i64.wrap (m - win) = m - win := IntWalk.i64_in _ (by omega)
  rw [e2]
  have HU := Lib.hid e1
  generalize msgT T win m ⟨xk, xu, xs, xl, xc, false⟩ = U at HU e1 ⊢
  have hrn : w.heap.size + 1 ≠ r := by have := h.at_.lt; omega
  have hxr : w.heap.size ≠ r := by have := h.at_.lt; omega
  unfold Ms.value
  have ew2 : IntKind.i64.wrap (m - (tg T e).at_) = m - (tg T e).at_ := IntWalk.i64_in _ (by omega)
  have hin := Lib.hid hi
  clear hi he
  have dfar : decide (win < m - (tg T e).at_) = false := decide_eq_false (by omega)
  clear hf
  clear e1 e2 h hm hb hq
  go_enter Try.func12, Try.ntmps12
  go_upto_region 1 with fail
  generalize hV : World.alloc (World.alloc _ _) _ = V
  have gV : Grew w V := by rw [← hV]; exact ((Grew.refl w).alloc _).alloc _
  have BX : Hid (At V w.heap.size (msC ⟨xk, xu, xs, xl, xc, false⟩)) := Lib.hid (by
    rw [← hV]
    exact (At.new w (msC ⟨xk, xu, xs, xl, xc, false⟩) _).grew ((Grew.refl _).alloc _))
  have HR : Hid (At V (w.heap.size + 1) noPdC) := Lib.hid (by
    have := At.new (w.alloc (.cells (msC ⟨xk, xu, xs, xl, xc, false⟩).toArray 33)) noPdC 38
    rw [show (w.alloc (.cells (msC ⟨xk, xu, xs, xl, xc, false⟩).toArray 33)).heap.size = w.heap.size + 1 by simp] at this
    rw [← hV]; exact this)
  clear hV
  go_upto_region 4 with (first
    | (go_at_call 21; refine (HM _ gV).out.mono ?_; rintro y w1 ⟨rfl, g1⟩; have GG := Lib.hid (gV.trans g1))
    | (go_at_call 23; refine (HLa _ GG.out).out.mono ?_; rintro y w2 ⟨rfl, hw2⟩; subst hw2))
  have HAT := Lib.hid (HH.out.at_.grew GG.out)
  have KS : ∀ w', Grew w1 w' → Hid (w'.cell? ⟨r, 0, none⟩ = some (.int .i64 win)) := fun w' k => Lib.hid ((HAT.out.grew k).cell 0 _ rfl)
  have ltw1 := HAT.out.lt
  have G : Grew w1 w1.drew := (Grew.refl w1).drew
  go_region_held3 (fun w' => w'.cell? ⟨r, 0, none⟩ = some (.int .i64 win)) (exact (KS _ G).out) ((first
    | (go_at_call 25; refine (HC _ _ _ hE.out).out.mono ?_; rintro z w4 ⟨rfl, hw4⟩; subst hw4)
    | (go_at_call 24; refine (HK _ (GG.out.trans G)).out.mono ?_; rintro z w3 ⟨gE, LE, rfl, _, hE, g3⟩; replace hE := Lib.hid hE; replace G := G.trans g3)))
  go_upto_region 5 with fail
  have GW := Lib.hid (GG.out.trans G)
  obtain ⟨u0, u1, u2, u3, u4, u5⟩ := At.six (BX.out.grew (g1.trans G))
  have ltu := (BX.out.grew (g1.trans G)).lt
  go_upto_region 6 with (go_at_call 22; refine (HA _ GW.out).out.mono ?_; rintro y w5 ⟨b, cc, rfl, h5, hb5, f5⟩; replace h5 := Lib.hid h5; replace f5 := Lib.hid f5)
  have HR5 := Lib.hid ((HR.out.grew (g1.trans G)).far f5.out hrn)
  have BX5 := Lib.hid ((BX.out.grew (g1.trans G)).far f5.out hxr)
  have F5 := Lib.hid ((Far.of_grew GW.out).trans f5.out)
  have sz1 := (HR.out.grew (g1.trans G)).lt
  have hbn : w.heap.size + 1 ≠ b := by omega
  have hbx : w.heap.size ≠ b := by omega
  have hbr : b ≠ r := h5.out.ne b rfl
  have d0 := h5.out.at_.cell 0 _ rfl
  have d1 := h5.out.at_.cell 1 _ rfl
  have lt5 := h5.out.at_.lt
  have t5 := BX5.out.cell 5 _ rfl
  have ltx := BX5.out.lt
  clear HA HK HC HM HLa HR u0 u1 u2 u3 u4 u5 ltu g1 gV KS HAT BX
  have lj : e < (T ++ [(⟨m, false, ⟨xk, xu, xs, xl, xc, false⟩, false, false⟩ : Tg)]).length := by rw [List.length_append, List.length_singleton]; omega
  have htl : tg (T ++ [(⟨m, false, ⟨xk, xu, xs, xl, xc, false⟩, false, false⟩ : Tg)]) e = tg T e := tg_left hel
  have ca := h5.out.cell e 0 lj (by decide) (.int .i64 (tg T e).at_) (by rw [htl]; rfl)
  rw [Nat.add_zero] at ca
  have c8 := h5.out.cell e 8 lj (by decide) (.bool (tg T e).isin) (by rw [htl]; rfl)
  rw [hin.out] at c8
  have i0 : (0 : Int) ≤ e := by omega
  have i1 : (e : Int) < (T.length : Int) + 1 := by omega
  have de : decide ((e : Int) < 0) = false := decide_eq_false (by omega)
  obtain ⟨⟨r0, r1, r2, r3, r4, r5, r6⟩, y0, y1, y2, y3, y4, y5, y6⟩ := At.seven HR5.out
  have ltr := HR5.out.lt
  have HE2 : Hid (∀ W', Far (fun b => b = w.heap.size + 1) w5 W' → DocTold r win L U none w (.returned (.tuple #[.agg #[.int .i64 0, .int .u8 0, .bool false, .int .i64 0, .bool false, .int .i64 0, .bool false], .bool false])) W') := Lib.hid (fun W' f => by
    rw [HU.out]
    refine ⟨_, rfl, h5.out.far f (fun q => hrn q.symm) (fun k e => ?_), fun k e => .inr ?_, F5.out.beyond f (fun k e => .inr (by omega))⟩
    · simp only [Value.ownBlock, Option.some.injEq] at e
      omega
    · simp only [Value.ownBlock, Option.some.injEq] at e
      have := GW.out.size
      omega)
  clear h5 HR5 F5 f5 BX5 GG GW
  generalize w.heap.size + 1 = n0 at *
  go_quiet (fail)
  go_wp2_with fail
  refine bodyPost_ret (by simp [results, Try.results12, go_sem, r0, r1, r2, r3, r4, r5, r6]; try rfl) rfl ?_
  refine HE2.out _ ?_
  repeat (first | (with_reducible exact Far.refl _ _) | (with_reducible refine Far.drewF ?_) | (with_reducible refine Far.setCell (F := fun b => b = n0) ?_ (p := ⟨n0, _, none⟩) rfl _))
  exact Far.of_grew ((Grew.refl w5).drewN nq)
set_option maxRecDepth 100000 in
set_option maxHeartbeats 4000000 in
theorem ref17_Message_met (w : World) (r : Nat) (win m : Int) (x : Ms) (L : Value) (T : List Tg) (h : RefP w r win L T) (hl : T.length ≤ 100000) (hm : mayT T m = true) (hb : ∀ j, j < T.length → 0 ≤ (tg T j).at_ ∧ (tg T j).at_ ≤ 9223372036854775807) (hc : m ≤ 9223372036854775807) (hkw : 100000000 ≤ win ∧ win ≤ 900000000) (hx : x.next = false) (e : Nat) (he : lastI T T.length = some e) (hi : (tg T e).isin = false) (hf : ¬ m - (tg T e).at_ > win) (hn : cntE (keptI T T.length) (m - win) m (keptI T T.length).length = 1) (hq : meetsT T win m x = some e) :
    Calls Try.prog 12 #[.pointer (some ⟨r, 0, none⟩), .int .i64 m, x.value] w (DocTold r win L (msgT T win m x) (msgTP T win m x) w) := by
  have HH := Lib.hid h
  have c0 : 0 ≤ m := by
    by_cases q : 0 ≤ m
    · exact q
    · unfold mayT at hm
      rw [decide_eq_false q] at hm
      cases hm
  have e1 : msgT T win m x = ((T ++ [(⟨m, false, x, false, false⟩ : Tg)]).set e { tg T e with isin := true }) := by unfold msgT; rw [hm, hq]; rfl
  have e2 : msgTP T win m x = some ⟨(tg T e).at_, x⟩ := by unfold msgTP; rw [hm, hq]; rfl
  obtain ⟨xk, xu, xs, xl, xc, xn⟩ := x
  obtain rfl : xn = false := hx
  have HM := fun w' (k : Grew w w') => Lib.hid (ref17_may w' r win L T m (h.grew k) hl)
  have HLa := fun w' (k : Grew w w') => Lib.hid (ref17_last w' r win L T (h.grew k) hl)
  have HK := fun w' (k : Grew w w') => Lib.hid (ref17_kept w' r win L T (h.grew k) hl hb)
  have HC := fun w' g L' (q : RefE w' g L' (keptI T T.length)) => Lib.hid (ref16_Count w' g L' (keptI T T.length) (m - win) m q (keptI_len T _))
  have HA : ∀ w', Grew w w' → Hid (Calls Try.prog 22 #[.pointer (some ⟨r, 0, none⟩), .agg #[.int .i64 m, .bool false, .int .u8 xk, .bool xu, .int .i64 xs, .bool xl, .int .i64 xc, .bool false, .bool false, .bool false]] w' (AddP r win T ⟨m, false, ⟨xk, xu, xs, xl, xc, false⟩, false, false⟩ w')) := fun w' k => Lib.hid (ref17_add w' r win L T ⟨m, false, ⟨xk, xu, xs, xl, xc, false⟩, false, false⟩ (h.grew k) hl)
  rw [hm] at HM
  have hel := (lastI_lt he).1
  have hbe := hb e hel
  rw [he] at HLa
  unfold optI at HLa
  simp only at HLa
  rw [hn, show ((1 : Nat) : Int) = 1 from rfl] at HC
  clear hn
  generalize keptI T T.length = K at HK HC
  have ew : IntKind.i64.wrap (m - win) = m - win := IntWalk.i64_in _ (by omega)
  rw [e2]
  have HU := Lib.hid e1
  generalize msgT T win m ⟨xk, xu, xs, xl, xc, false⟩ = U at HU e1 ⊢
  have hrn : w.heap.size + 1 ≠ r := by have := h.at_.lt; omega
  have hxr : w.heap.size ≠ r := by have := h.at_.lt; omega
  unfold Ms.value
  have ew2 : IntKind.i64.wrap (m - (tg T e).at_) = m - (tg T e).at_ := IntWalk.i64_in _ (by omega)
  have hin := Lib.hid hi
  clear hi he
  have dfar : decide (win < m - (tg T e).at_) = false := decide_eq_false (by omega)
  clear hf
  clear e1 e2 h hm hb hq
  go_enter Try.func12, Try.ntmps12
  go_upto_region 1 with fail
  generalize hV : World.alloc (World.alloc _ _) _ = V
  have gV : Grew w V := by rw [← hV]; exact ((Grew.refl w).alloc _).alloc _
  have BX : Hid (At V w.heap.size (msC ⟨xk, xu, xs, xl, xc, false⟩)) := Lib.hid (by
    rw [← hV]
    exact (At.new w (msC ⟨xk, xu, xs, xl, xc, false⟩) _).grew ((Grew.refl _).alloc _))
  have HR : Hid (At V (w.heap.size + 1) noPdC) := Lib.hid (by
    have := At.new (w.alloc (.cells (msC ⟨xk, xu, xs, xl, xc, false⟩).toArray 33)) noPdC 38
    rw [show (w.alloc (.cells (msC ⟨xk, xu, xs, xl, xc, false⟩).toArray 33)).heap.size = w.heap.size + 1 by simp] at this
    rw [← hV]; exact this)
  clear hV
  go_upto_region 4 with (first
    | (go_at_call 21; refine (HM _ gV).out.mono ?_; rintro y w1 ⟨rfl, g1⟩; have GG := Lib.hid (gV.trans g1))
    | (go_at_call 23; refine (HLa _ GG.out).out.mono ?_; rintro y w2 ⟨rfl, hw2⟩; subst hw2))
  have HAT := Lib.hid (HH.out.at_.grew GG.out)
  have KS : ∀ w', Grew w1 w' → Hid (w'.cell? ⟨r, 0, none⟩ = some (.int .i64 win)) := fun w' k => Lib.hid ((HAT.out.grew k).cell 0 _ rfl)
  have ltw1 := HAT.out.lt
  have G : Grew w1 w1.drew := (Grew.refl w1).drew
  go_region_held3 (fun w' => w'.cell? ⟨r, 0, none⟩ = some (.int .i64 win)) (exact (KS _ G).out) ((first
    | (go_at_call 25; refine (HC _ _ _ hE.out).out.mono ?_; rintro z w4 ⟨rfl, hw4⟩; subst hw4)
    | (go_at_call 24; refine (HK _ (GG.out.trans G)).out.mono ?_; rintro z w3 ⟨gE, LE, rfl, _, hE, g3⟩; replace hE := Lib.hid hE; replace G := G.trans g3)))
  go_upto_region 5 with fail
  have GW := Lib.hid (GG.out.trans G)
  obtain ⟨u0, u1, u2, u3, u4, u5⟩ := At.six (BX.out.grew (g1.trans G))
  have ltu := (BX.out.grew (g1.trans G)).lt
  go_upto_region 6 with (go_at_call 22; refine (HA _ GW.out).out.mono ?_; rintro y w5 ⟨b, cc, rfl, h5, hb5, f5⟩; replace h5 := Lib.hid h5; replace f5 := Lib.hid f5)
  have HR5 := Lib.hid ((HR.out.grew (g1.trans G)).far f5.out hrn)
  have BX5 := Lib.hid ((BX.out.grew (g1.trans G)).far f5.out hxr)
  have F5 := Lib.hid ((Far.of_grew GW.out).trans f5.out)
  have sz1 := (HR.out.grew (g1.trans G)).lt
  have hbn : w.heap.size + 1 ≠ b := by omega
  have hbx : w.heap.size ≠ b := by omega
  have hbr : b ≠ r := h5.out.ne b rfl
  have d0 := h5.out.at_.cell 0 _ rfl
  have d1 := h5.out.at_.cell 1 _ rfl
  have lt5 := h5.out.at_.lt
  have t5 := BX5.out.cell 5 _ rfl
  have ltx := BX5.out.lt
  clear HA HK HC HM HLa HR u0 u1 u2 u3 u4 u5 ltu g1 gV KS HAT BX
  have lj : e < (T ++ [(⟨m, false, ⟨xk, xu, xs, xl, xc, false⟩, false, false⟩ : Tg)]).length := by rw [List.length_append, List.length_singleton]; omega
  have htl : tg (T ++ [(⟨m, false, ⟨xk, xu, xs, xl, xc, false⟩, false, false⟩ : Tg)]) e = tg T e := tg_left hel
  have ca := h5.out.cell e 0 lj (by decide) (.int .i64 (tg T e).at_) (by rw [htl]; rfl)
  rw [Nat.add_zero] at ca
  have c8 := h5.out.cell e 8 lj (by decide) (.bool (tg T e).isin) (by rw [htl]; rfl)
  rw [hin.out] at c8
  have i0 : (0 : Int) ≤ e := by omega
  have i1 : (e : Int) < (T.length : Int) + 1 := by omega
  have de : decide ((e : Int) < 0) = false := decide_eq_false (by omega)
  go_quiet (fail)
  go_upto_region 8 with fail
  have gq : Grew w5 (w5.drewN nq) := (Grew.refl w5).drewN nq
  generalize w5.drewN nq = w6 at gq ⊢
  have h6 := Lib.hid (h5.out.grew gq)
  have HR6 := Lib.hid (HR5.out.grew gq)
  have BX6 := Lib.hid (BX5.out.grew gq)
  have F6 := Lib.hid (F5.out.trans (Far.of_grew gq))
  clear ca c8 d0 d1 lt5 t5 ltx h5 HR5 BX5 F5 gq
  have d1 := h6.out.at_.cell 1 _ rfl
  have lt6 := h6.out.at_.lt
  have c8 := h6.out.cell e 8 lj (by decide) (.bool (tg T e).isin) (by rw [htl]; rfl)
  have z8 := h6.out.fz (e * 10 + 8)
  have h7 := Lib.hid (h6.out.set e 8 lj (by decide) (.bool true) { tg T e with isin := true } (by rw [htl]; rfl))
  have HR7 := Lib.hid (HR6.out.far (Far.one w6 ⟨b, e * 10 + 8, none⟩ (.bool true)) hbn)
  have BX7 := Lib.hid (BX6.out.far (Far.one w6 ⟨b, e * 10 + 8, none⟩ (.bool true)) hbx)
  have F7 := Lib.hid (F6.out.beyond (Far.one w6 ⟨b, e * 10 + 8, none⟩ (.bool true)) (fun k q => .inr (by simp only at q; have := GW.out.size; omega)))
  go_upto_region 9 with fail
  generalize w6.setCell ⟨b, e * 10 + 8, none⟩ (.bool true) = w7 at h7 HR7 BX7 F7 ⊢
  have lk : e < ((T ++ [(⟨m, false, ⟨xk, xu, xs, xl, xc, false⟩, false, false⟩ : Tg)]).set e { tg T e with isin := true }).length := by rw [List.length_set]; exact lj
  have hti : tg ((T ++ [(⟨m, false, ⟨xk, xu, xs, xl, xc, false⟩, false, false⟩ : Tg)]).set e { tg T e with isin := true }) e = { tg T e with isin := true } := by rw [tg_set lj, if_pos rfl]
  obtain ⟨at1, HAT1⟩ : ∃ a, Hid ((tg T e).at_ = a) := ⟨_, Lib.hid rfl⟩
  have KS0 : ∀ w', Far (fun b => b = w.heap.size + 1) w7 w' → Hid (w'.cell? ⟨r, 1, none⟩ = some (.slice (some ⟨b, 0, none⟩) (T.length + 1) cc) ∧ w'.cell? ⟨b, e * 10, none⟩ = some (.int .i64 at1) ∧ w'.cell? ⟨w.heap.size, 0, none⟩ = some (.int .u8 xk) ∧ w'.cell? ⟨w.heap.size, 1, none⟩ = some (.bool xu) ∧ w'.cell? ⟨w.heap.size, 2, none⟩ = some (.int .i64 xs) ∧ w'.cell? ⟨w.heap.size, 3, none⟩ = some (.bool xl) ∧ w'.cell? ⟨w.heap.size, 4, none⟩ = some (.int .i64 xc) ∧ w'.cell? ⟨w.heap.size, 5, none⟩ = some (.bool false)) := fun w' k => Lib.hid (by
    have q1 := h7.out.far k (fun q => hrn q.symm) (fun b' e' q => by simp only [Value.ownBlock, Option.some.injEq] at e'; omega)
    have q2 := BX7.out.far k (by omega)
    have q3 := q1.cell e 0 lk (by decide) (.int .i64 (tg T e).at_) (by rw [hti]; rfl)
    rw [Nat.add_zero, HAT1.out] at q3
    exact ⟨q1.at_.cell 1 _ rfl, q3, q2.cell 0 _ rfl, q2.cell 1 _ rfl, q2.cell 2 _ rfl, q2.cell 3 _ rfl, q2.cell 4 _ rfl, q2.cell 5 _ rfl⟩)
  have ltr7 := h7.out.at_.lt
  have ltx7 := BX7.out.lt
  obtain ⟨⟨r0, r1, r2, r3, r4, r5, r6⟩, y0, y1, y2, y3, y4, y5, y6⟩ := At.seven HR7.out
  have ltr := HR7.out.lt
  have HE2 : Hid (∀ W', Far (fun b => b = w.heap.size + 1) w7 W' → DocTold r win L U (some ⟨(tg T e).at_, ⟨xk, xu, xs, xl, xc, false⟩⟩) w (.returned (.tuple #[.agg #[.int .i64 (tg T e).at_, .int .u8 xk, .bool xu, .int .i64 xs, .bool xl, .int .i64 xc, .bool false], .bool true])) W') := Lib.hid (fun W' f => by
    rw [HU.out]
    refine ⟨_, rfl, h7.out.far f (fun q => hrn q.symm) (fun k e => ?_), fun k e => .inr ?_, F7.out.beyond f (fun k e => .inr (by omega))⟩
    · simp only [Value.ownBlock, Option.some.injEq] at e
      omega
    · simp only [Value.ownBlock, Option.some.injEq] at e
      have := GW.out.size
      omega)
  rw [HAT1.out] at HE2
  have HP : Hid ((some (⟨(tg T e).at_, ⟨xk, xu, xs, xl, xc, false⟩⟩ : Pd)) = some ⟨at1, ⟨xk, xu, xs, xl, xc, false⟩⟩) := Lib.hid (by rw [HAT1.out])
  clear h6 HR6 BX6 F6 c8 z8 d1 lt6 h7 HR7 BX7 F7 hti htl hin f5 GW ew2 hbe dfar
  generalize w.heap.size + 1 = n0 at *
  generalize w.heap.size = x0 at *
  have KT := KS0
  have KS := fun w' (k : Grew w7 w') => KS0 w' (Far.of_grew k)
  clear KS0
  refine wp_region_held_drew (S := (fun w' => w'.cell? ⟨r, 1, none⟩ = some (.slice (some ⟨b, 0, none⟩) (T.length + 1) cc) ∧ w'.cell? ⟨b, e * 10, none⟩ = some (.int .i64 at1) ∧ w'.cell? ⟨x0, 0, none⟩ = some (.int .u8 xk) ∧ w'.cell? ⟨x0, 1, none⟩ = some (.bool xu) ∧ w'.cell? ⟨x0, 2, none⟩ = some (.int .i64 xs) ∧ w'.cell? ⟨x0, 3, none⟩ = some (.bool xl) ∧ w'.cell? ⟨x0, 4, none⟩ = some (.int .i64 xc) ∧ w'.cell? ⟨x0, 5, none⟩ = some (.bool false))) (by kernel_rfl) (by first | exact (KS _ ((Grew.refl w7).drew)).out | exact (KT _ (by repeat (first | (with_reducible exact Far.refl _ _) | (with_reducible refine Far.drewF ?_) | (with_reducible refine Far.setCell (F := fun b => b = n0) ?_ (p := ⟨n0, _, none⟩) rfl _)))).out) (fun hHeld => ?_)
  refine take_at (i := 0) (d := (some 77)) (v := ?_) rfl rfl (by kernel_rfl) (by kernel_rfl) (by kernel_rfl) (fun _ _ _ h => h) (Or.inl ⟨by rfl, ?_⟩) (by assumption) ?_
  rotate_left; · ((intro w hSw; (try dsimp only at hSw); go_simp) <;> with_reducible rfl)
  simp only [Act.put, List.setIfInBounds_toArray, List.set_cons_zero, List.set_cons_succ]
  refine take_at (i := 1) (d := (some 78)) (v := ?_) rfl rfl (by kernel_rfl) (by kernel_rfl) (by kernel_rfl) (fun _ _ _ h => h) (Or.inl ⟨by rfl, ?_⟩) (by assumption) ?_
  rotate_left; · ((intro w hSw; (try dsimp only at hSw); go_simp) <;> with_reducible rfl)
  simp only [Act.put, List.setIfInBounds_toArray, List.set_cons_zero, List.set_cons_succ]
  refine take_at (i := 2) (d := (some 79)) (v := ?_) rfl rfl (by kernel_rfl) (by kernel_rfl) (by kernel_rfl) (fun _ _ _ h => h) (Or.inl ⟨by rfl, ?_⟩) (by assumption) ?_
  rotate_left; · ((intro w hSw; (try dsimp only at hSw); go_simp) <;> with_reducible rfl)
  simp only [Act.put, List.setIfInBounds_toArray, List.set_cons_zero, List.set_cons_succ]
  refine take_at (i := 3) (d := (some 80)) (v := ?_) rfl rfl (by kernel_rfl) (by kernel_rfl) (by kernel_rfl) (fun _ _ _ h => h) (Or.inl ⟨by rfl, ?_⟩) (by assumption) ?_
  rotate_left; · ((intro w hSw; (try dsimp only at hSw); go_simp) <;> with_reducible rfl)
  simp only [Act.put, List.setIfInBounds_toArray, List.set_cons_zero, List.set_cons_succ]
  refine take_at (i := 4) (d := (some 81)) (v := ?_) rfl rfl (by kernel_rfl) (by kernel_rfl) (by kernel_rfl) (fun _ _ _ h => h) (Or.inl ⟨by rfl, ?_⟩) (by assumption) ?_
  rotate_left; · ((intro w hSw; (try dsimp only at hSw); go_simp) <;> with_reducible rfl)
  simp only [Act.put, List.setIfInBounds_toArray, List.set_cons_zero, List.set_cons_succ]
  refine take_at (i := 5) (d := (some 82)) (v := ?_) rfl rfl (by kernel_rfl) (by kernel_rfl) (by kernel_rfl) (fun _ _ _ h => h) (Or.inl ⟨by rfl, ?_⟩) (by assumption) ?_
  rotate_left; · ((intro w hSw; (try dsimp only at hSw); go_simp) <;> with_reducible rfl)
  simp only [Act.put, List.setIfInBounds_toArray, List.set_cons_zero, List.set_cons_succ]
  refine take_at (i := 6) (d := (some 83)) (v := ?_) rfl rfl (by kernel_rfl) (by kernel_rfl) (by kernel_rfl) (fun _ _ _ h => h) (Or.inl ⟨by rfl, ?_⟩) (by assumption) ?_
  rotate_left; · ((intro w hSw; (try dsimp only at hSw); go_simp) <;> with_reducible rfl)
  simp only [Act.put, List.setIfInBounds_toArray, List.set_cons_zero, List.set_cons_succ]
  refine take_at (i := 7) (d := (some 84)) (v := ?_) rfl rfl (by kernel_rfl) (by kernel_rfl) (by kernel_rfl) (fun _ _ _ h => h) (Or.inl ⟨by rfl, ?_⟩) (by assumption) ?_
  rotate_left; · ((intro w hSw; (try dsimp only at hSw); go_simp) <;> with_reducible rfl)
  simp only [Act.put, List.setIfInBounds_toArray, List.set_cons_zero, List.set_cons_succ]
  refine take_at (i := 8) (d := (some 85)) (v := ?_) rfl rfl (by kernel_rfl) (by kernel_rfl) (by kernel_rfl) (fun _ _ _ h => h) (Or.inl ⟨by rfl, ?_⟩) (by assumption) ?_
  rotate_left; · ((intro w hSw; (try dsimp only at hSw); go_simp) <;> with_reducible rfl)
  simp only [Act.put, List.setIfInBounds_toArray, List.set_cons_zero, List.set_cons_succ]
  refine take_at (i := 9) (d := (some 86)) (v := ?_) rfl rfl (by kernel_rfl) (by kernel_rfl) (by kernel_rfl) (fun _ _ _ h => h) (Or.inl ⟨by rfl, ?_⟩) (by assumption) ?_
  rotate_left; · ((intro w hSw; (try dsimp only at hSw); go_simp) <;> with_reducible rfl)
  simp only [Act.put, List.setIfInBounds_toArray, List.set_cons_zero, List.set_cons_succ]
  refine wpAnyH_ready (rs := [10]) (by kernel_rfl) (by simp) ?_
  refine AllReadyH.cons rfl (fun K hK => ?_) AllReadyH.nil
  go_simp
  go_wp2_with fail
  refine hK.out _ _ (by first | exact (KT _ (by repeat (first | (with_reducible exact Far.refl _ _) | (with_reducible refine Far.drewF ?_) | (with_reducible refine Far.setCell (F := fun b => b = n0) ?_ (p := ⟨n0, _, none⟩) rfl _)))).out) (fun hHeld => ?_)
  clear hK K
  refine take_at (i := 11) (d := (some 7)) (v := ?_) rfl rfl (by kernel_rfl) (by kernel_rfl) (by kernel_rfl) (fun _ _ _ h => h) (Or.inl ⟨by rfl, ?_⟩) (by assumption) ?_
  rotate_left; · ((intro w hSw; (try dsimp only at hSw); go_simp) <;> with_reducible rfl)
  simp only [Act.put, List.setIfInBounds_toArray, List.set_cons_zero, List.set_cons_succ]
  refine wpAnyH_done (by kernel_rfl) ?_ _
  go_wp2_with fail
  refine bodyPost_ret (by simp [results, Try.results12, go_sem, r0, r1, r2, r3, r4, r5, r6]; try rfl) rfl ?_
  rw [HP.out]
  refine HE2.out _ ?_
  repeat (first | (with_reducible exact Far.refl _ _) | (with_reducible refine Far.drewF ?_) | (with_reducible refine Far.setCell (F := fun b => b = n0) ?_ (p := ⟨n0, _, none⟩) rfl _))
/-- A message comes to the document's list. -/
theorem ref17_Message (w : World) (r : Nat) (win m : Int) (x : Ms) (L : Value) (T : List Tg) (h : RefP w r win L T) (hl : T.length ≤ 100000) (hb : ∀ j, j < T.length → 0 ≤ (tg T j).at_ ∧ (tg T j).at_ ≤ 9223372036854775807) (hc : m ≤ 9223372036854775807) (hkw : 100000000 ≤ win ∧ win ≤ 900000000) :
    Calls Try.prog 12 #[.pointer (some ⟨r, 0, none⟩), .int .i64 m, x.value] w (DocTold r win L (msgT T win m x) (msgTP T win m x) w) := by
  cases hm : mayT T m with
  | false => exact ref17_Message_old w r win m x L T h hl hm
  | true =>
    cases hx : x.next with
    | true => exact ref17_Message_next w r win m x L T h hl hm hb hc hkw hx (by unfold meetsT; rw [if_pos hx])
    | false =>
      have hx' : ¬ x.next = true := by rw [hx]; decide
      cases he : lastI T T.length with
      | none => exact ref17_Message_noedge w r win m x L T h hl hm hb hc hkw hx he (by unfold meetsT; rw [if_neg hx', he])
      | some e =>
        cases hi : (tg T e).isin with
        | true => exact ref17_Message_isin w r win m x L T h hl hm hb hc hkw hx e he hi (by unfold meetsT; rw [if_neg hx', he]; simp only; rw [if_pos (.inl hi)])
        | false =>
          by_cases hf : m - (tg T e).at_ > win
          · exact ref17_Message_far w r win m x L T h hl hm hb hc hkw hx e he hi hf (by unfold meetsT; rw [if_neg hx', he]; simp only; rw [if_pos (.inr (.inl hf))])
          · by_cases hn : cntE (keptI T T.length) (m - win) m (keptI T T.length).length = 1
            · exact ref17_Message_met w r win m x L T h hl hm hb hc hkw hx e he hi hf hn (by unfold meetsT; rw [if_neg hx', he]; simp only; rw [if_neg (fun q => by rcases q with q | q | q; (rw [hi] at q; cases q); exact hf q; exact q hn)])
            · exact ref17_Message_many w r win m x L T h hl hm hb hc hkw hx e he hi hf hn (by unfold meetsT; rw [if_neg hx', he]; simp only; rw [if_pos (.inr (.inr hn))])
-- MSG]
end Go.Proofs.Ytkijonnbngnliaa
