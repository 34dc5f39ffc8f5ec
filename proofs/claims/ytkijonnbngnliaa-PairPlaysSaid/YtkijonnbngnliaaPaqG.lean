/-
  The document's pairing: a message comes.
-/
import Derived.Test.YtkijonnbngnliaaPaqC
import Derived.Test.YtkijonnbngnliaaPaqF
import Derived.Test.YtkijonnbngnliaaPapD
namespace Go.Proofs.Ytkijonnbngnliaa
open Go.RowKit
set_option linter.unusedVariables false

-- [MSG
set_option maxRecDepth 100000 in
set_option maxHeartbeats 4000000 in
theorem ref17_Message_old (w : World) (r : Nat) (win m : Int) (x : Ms) (L : Value) (T : List Tg) (h : RefP w r win L T) (hl : T.length ≤ 100000) (hm : mayT T m = false) :
    Calls Try.prog 12 #[.pointer (some ⟨r, 0, none⟩), .int .i64 m, x.value] w (DocTold r win L (msgT T win m x) (msgTP T win m x) w) := by
  have HH := Lib.hid h
  have HM := fun w' (k : Grew w w') => Lib.hid (ref17_may w' r win L T m (h.grew k) hl)
  rw [hm] at HM
  have e1 : msgT T win m x = T := by unfold msgT; rw [if_pos hm]
  have e2 : msgTP T win m x = none := by unfold msgTP; rw [if_pos hm]
  rw [e1, e2]
  have HE : Hid (∀ W', Grew w W' → DocTold r win L T none w (.returned (.tuple #[.agg #[.int .i64 0, .int .u8 0, .bool false, .int .i64 0, .bool false, .int .i64 0, .bool false], .bool false])) W') := Lib.hid (fun W' k => ⟨L, rfl, HH.out.grew k, fun b e => .inl e, Far.of_grew k⟩)
  unfold Ms.value
  clear e1 e2 h hm
  go_enter Try.func12, Try.ntmps12
  go_upto_region 1 with fail
  generalize hV : World.alloc (World.alloc _ _) _ = V
  have gV : Grew w V := by rw [← hV]; exact ((Grew.refl w).alloc _).alloc _
  have HR : Hid (At V (w.heap.size + 1) noPdC) := Lib.hid (by
    have := At.new (w.alloc (.cells (msC x).toArray 33)) noPdC 38
    rw [show (w.alloc (.cells (msC x).toArray 33)).heap.size = w.heap.size + 1 by simp] at this
    rw [← hV]; exact this)
  clear hV
  go_upto_region 2 with (go_at_call 21; refine (HM _ gV).out.mono ?_; rintro y w1 ⟨rfl, g1⟩)
  obtain ⟨⟨r0, r1, r2, r3, r4, r5, r6⟩, y0, y1, y2, y3, y4, y5, y6⟩ := At.seven (HR.out.grew g1)
  have ltr := (HR.out.grew g1).lt
  have HE2 : Hid (∀ W', Far (fun b => b = w.heap.size + 1) w1 W' → DocTold r win L T none w (.returned (.tuple #[.agg #[.int .i64 0, .int .u8 0, .bool false, .int .i64 0, .bool false, .int .i64 0, .bool false], .bool false])) W') := Lib.hid (fun W' f => HE.out W' (f.grew (gV.trans g1) (fun k e => by omega)))
  clear HE HM HR gV g1
  generalize w.heap.size + 1 = n0 at *
  go_wp2_with fail
  refine bodyPost_ret (by simp [results, Try.results12, go_sem, r0, r1, r2, r3, r4, r5, r6]; try rfl) rfl ?_
  refine HE2.out _ ?_
  repeat (first | (with_reducible exact Far.refl _ _) | (with_reducible refine Far.drewF ?_) | (with_reducible refine Far.setCell (F := fun b => b = n0) ?_ (p := ⟨n0, _, none⟩) rfl _))
set_option maxRecDepth 100000 in
set_option maxHeartbeats 4000000 in
theorem ref17_Message_next (w : World) (r : Nat) (win m : Int) (x : Ms) (L : Value) (T : List Tg) (h : RefP w r win L T) (hl : T.length ≤ 100000) (hm : mayT T m = true) (hb : ∀ j, j < T.length → 0 ≤ (tg T j).at_ ∧ (tg T j).at_ ≤ 9223372036854775807) (hc : m ≤ 9223372036854775807) (hkw : 100000000 ≤ win ∧ win ≤ 900000000) (hx : x.next = true) (hq : meetsT T win m x = none) :
    Calls Try.prog 12 #[.pointer (some ⟨r, 0, none⟩), .int .i64 m, x.value] w (DocTold r win L (msgT T win m x) (msgTP T win m x) w) := by
  have HH := Lib.hid h
  have c0 : 0 ≤ m := by
    by_cases q : 0 ≤ m
    · exact q
    · unfold mayT at hm
      rw [decide_eq_false q] at hm
      cases hm
  have e1 : msgT T win m x = T ++ [(⟨m, false, x, false, false⟩ : Tg)] := by unfold msgT; rw [hm, hq]; rfl
  have e2 : msgTP T win m x = none := by unfold msgTP; rw [hm, hq]; rfl
  obtain ⟨xk, xu, xs, xl, xc, xn⟩ := x
  obtain rfl : xn = true := hx
  have HM := fun w' (k : Grew w w') => Lib.hid (ref17_may w' r win L T m (h.grew k) hl)
  have HLa := fun w' (k : Grew w w') => Lib.hid (ref17_last w' r win L T (h.grew k) hl)
  have HK := fun w' (k : Grew w w') => Lib.hid (ref17_kept w' r win L T (h.grew k) hl hb)
  have HC := fun w' g L' (q : RefE w' g L' (keptI T T.length)) => Lib.hid (ref16_Count w' g L' (keptI T T.length) (m - win) m q (keptI_len T _))
  have HA : ∀ w', Grew w w' → Hid (Calls Try.prog 22 #[.pointer (some ⟨r, 0, none⟩), .agg #[.int .i64 m, .bool false, .int .u8 xk, .bool xu, .int .i64 xs, .bool xl, .int .i64 xc, .bool true, .bool false, .bool false]] w' (AddP r win T ⟨m, false, ⟨xk, xu, xs, xl, xc, true⟩, false, false⟩ w')) := fun w' k => Lib.hid (ref17_add w' r win L T ⟨m, false, ⟨xk, xu, xs, xl, xc, true⟩, false, false⟩ (h.grew k) hl)
  rw [hm] at HM
  generalize optI (lastI T T.length) = eI at HLa
  generalize cntE (keptI T T.length) (m - win) m (keptI T T.length).length = N at HC
  generalize keptI T T.length = K at HK HC
  have ew : IntKind.i64.wrap (m - win) = m - win := IntWalk.i64_in _ (by omega)
  rw [e2]
  have HU := Lib.hid e1
  generalize msgT T win m ⟨xk, xu, xs, xl, xc, true⟩ = U at HU e1 ⊢
  have hrn : w.heap.size + 1 ≠ r := by have := h.at_.lt; omega
  have hxr : w.heap.size ≠ r := by have := h.at_.lt; omega
  unfold Ms.value
  clear e1 e2 h hm hb hq
  go_enter Try.func12, Try.ntmps12
  go_upto_region 1 with fail
  generalize hV : World.alloc (World.alloc _ _) _ = V
  have gV : Grew w V := by rw [← hV]; exact ((Grew.refl w).alloc _).alloc _
  have BX : Hid (At V w.heap.size (msC ⟨xk, xu, xs, xl, xc, true⟩)) := Lib.hid (by
    rw [← hV]
    exact (At.new w (msC ⟨xk, xu, xs, xl, xc, true⟩) _).grew ((Grew.refl _).alloc _))
  have HR : Hid (At V (w.heap.size + 1) noPdC) := Lib.hid (by
    have := At.new (w.alloc (.cells (msC ⟨xk, xu, xs, xl, xc, true⟩).toArray 33)) noPdC 38
    rw [show (w.alloc (.cells (msC ⟨xk, xu, xs, xl, xc, true⟩).toArray 33)).heap.size = w.heap.size + 1 by simp] at this
    rw [← hV]; exact this)
  clear hV
  go_upto_region 4 with (first
    | (go_at_call 21; refine (HM _ gV).out.mono ?_; rintro y w1 ⟨rfl, g1⟩; have GG := Lib.hid (gV.trans g1))
    | (go_at_call 23; refine (HLa _ GG.out).out.mono ?_; rintro y w2 ⟨rfl, hw2⟩; subst hw2))
  have HAT := Lib.hid (HH.out.at_.grew GG.out)
  have KS : ∀ w', Grew w1 w' → Hid (w'.cell? ⟨r, 0, none⟩ = some (.int .i64 win)) := fun w' k => Lib.hid ((HAT.out.grew k).cell 0 _ rfl)
  have ltw1 := HAT.out.lt
  have G : Grew w1 w1.drew := (Grew.refl w1).drew
  go_region_held3 (fun w' => w'.cell? ⟨r, 0, none⟩ = some (.int .i64 win)) (exact (KS _ G).out) ((first
    | (go_at_call 25; refine (HC _ _ _ hE.out).out.mono ?_; rintro z w4 ⟨rfl, hw4⟩; subst hw4)
    | (go_at_call 24; refine (HK _ (GG.out.trans G)).out.mono ?_; rintro z w3 ⟨gE, LE, rfl, _, hE, g3⟩; replace hE := Lib.hid hE; replace G := G.trans g3)))
  go_upto_region 5 with fail
  have GW := Lib.hid (GG.out.trans G)
  obtain ⟨u0, u1, u2, u3, u4, u5⟩ := At.six (BX.out.grew (g1.trans G))
  have ltu := (BX.out.grew (g1.trans G)).lt
  go_upto_region 6 with (go_at_call 22; refine (HA _ GW.out).out.mono ?_; rintro y w5 ⟨b, cc, rfl, h5, hb5, f5⟩; replace h5 := Lib.hid h5; replace f5 := Lib.hid f5)
  have HR5 := Lib.hid ((HR.out.grew (g1.trans G)).far f5.out hrn)
  have BX5 := Lib.hid ((BX.out.grew (g1.trans G)).far f5.out hxr)
  have F5 := Lib.hid ((Far.of_grew GW.out).trans f5.out)
  have sz1 := (HR.out.grew (g1.trans G)).lt
  have hbn : w.heap.size + 1 ≠ b := by omega
  have hbx : w.heap.size ≠ b := by omega
  have hbr : b ≠ r := h5.out.ne b rfl
  have d0 := h5.out.at_.cell 0 _ rfl
  have d1 := h5.out.at_.cell 1 _ rfl
  have lt5 := h5.out.at_.lt
  have t5 := BX5.out.cell 5 _ rfl
  have ltx := BX5.out.lt
  clear HA HK HC HM HLa HR u0 u1 u2 u3 u4 u5 ltu g1 gV KS HAT BX
  obtain ⟨⟨r0, r1, r2, r3, r4, r5, r6⟩, y0, y1, y2, y3, y4, y5, y6⟩ := At.seven HR5.out
  have ltr := HR5.out.lt
  have HE2 : Hid (∀ W', Far (fun b => b = w.heap.size + 1) w5 W' → DocTold r win L U none w (.returned (.tuple #[.agg #[.int .i64 0, .int .u8 0, .bool false, .int .i64 0, .bool false, .int .i64 0, .bool false], .bool false])) W') := Lib.hid (fun W' f => by
    rw [HU.out]
    refine ⟨_, rfl, h5.out.far f (fun q => hrn q.symm) (fun k e => ?_), fun k e => .inr ?_, F5.out.beyond f (fun k e => .inr (by omega))⟩
    · simp only [Value.ownBlock, Option.some.injEq] at e
      omega
    · simp only [Value.ownBlock, Option.some.injEq] at e
      have := GW.out.size
      omega)
  clear h5 HR5 F5 f5 BX5 GG GW
  generalize w.heap.size + 1 = n0 at *
  go_quiet (fail)
  go_wp2_with fail
  refine bodyPost_ret (by simp [results, Try.results12, go_sem, r0, r1, r2, r3, r4, r5, r6]; try rfl) rfl ?_
  refine HE2.out _ ?_
  repeat (first | (with_reducible exact Far.refl _ _) | (with_reducible refine Far.drewF ?_) | (with_reducible refine Far.setCell (F := fun b => b = n0) ?_ (p := ⟨n0, _, none⟩) rfl _))
  exact Far.of_grew ((Grew.refl w5).drewN nq)
set_option maxRecDepth 100000 in
set_option maxHeartbeats 4000000 in
theorem ref17_Message_noedge (w : World) (r : Nat) (win m : Int) (x : Ms) (L : Value) (T : List Tg) (h : RefP w r win L T) (hl : T.length ≤ 100000) (hm : mayT T m = true) (hb : ∀ j, j < T.length → 0 ≤ (tg T j).at_ ∧ (tg T j).at_ ≤ 9223372036854775807) (hc : m ≤ 9223372036854775807) (hkw : 100000000 ≤ win ∧ win ≤ 900000000) (hx : x.next = false) (he : lastI T T.length = none) (hq : meetsT T win m x = none) :
    Calls Try.prog 12 #[.pointer (some ⟨r, 0, none⟩), .int .i64 m, x.value] w (DocTold r win L (msgT T win m x) (msgTP T win m x) w) := by
  have HH := Lib.hid h
  have c0 : 0 ≤ m := by
    by_cases q : 0 ≤ m
    · exact q
    · unfold mayT at hm
      rw [decide_eq_false q] at hm
      cases hm
  have e1 : msgT T win m x = T ++ [(⟨m, false, x, false, false⟩ : Tg)] := by unfold msgT; rw [hm, hq]; rfl
  have e2 : msgTP T win m x = none := by unfold msgTP; rw [hm, hq]; rfl
  obtain ⟨xk, xu, xs, xl, xc, xn⟩ := x
  obtain rfl : xn = false := hx
  have HM := fun w' (k : Grew w w') => Lib.hid (ref17_may w' r win L T m (h.grew k) hl)
  have HLa := fun w' (k : Grew w w') => Lib.hid (ref17_last w' r win L T (h.grew k) hl)
  have HK := fun w' (k : Grew w w') => Lib.hid (ref17_kept w' r win L T (h.grew k) hl hb)
  have HC := fun w' g L' (q : RefE w' g L' (keptI T T.length)) => Lib.hid (ref16_Count w' g L' (keptI T T.length) (m - win) m q (keptI_len T _))
  have HA : ∀ w', Grew w w' → Hid (Calls Try.prog 22 #[.pointer (some ⟨r, 0, none⟩), .agg #[.int .i64 m, .bool false, .int .u8 xk, .bool xu, .int .i64 xs, .bool xl, .int .i64 xc, .bool false, .bool false, .bool false]] w' (AddP r win T ⟨m, false, ⟨xk, xu, xs, xl, xc, false⟩, false, false⟩ w')) := fun w' k => Lib.hid (ref17_add w' r win L T ⟨m, false, ⟨xk, xu, xs, xl, xc, false⟩, false, false⟩ (h.grew k) hl)
  rw [hm] at HM
  rw [he] at HLa
  unfold optI at HLa
  simp only at HLa
  generalize cntE (keptI T T.length) (m - win) m (keptI T T.length).length = N at HC
  generalize keptI T T.length = K at HK HC
  have ew : IntKind.i64.wrap (m - win) = m - win := IntWalk.i64_in _ (by omega)
  rw [e2]
  have HU := Lib.hid e1
  generalize msgT T win m ⟨xk, xu, xs, xl, xc, false⟩ = U at HU e1 ⊢
  have hrn : w.heap.size + 1 ≠ r := by have := h.at_.lt; omega
  have hxr : w.heap.size ≠ r := by have := h.at_.lt; omega
  unfold Ms.value
  clear he
  clear e1 e2 h hm hb hq
  go_enter Try.func12, Try.ntmps12
  go_upto_region 1 with fail
  generalize hV : World.alloc (World.alloc _ _) _ = V
  have gV : Grew w V := by rw [← hV]; exact ((Grew.refl w).alloc _).alloc _
  have BX : Hid (At V w.heap.size (msC ⟨xk, xu, xs, xl, xc, false⟩)) := Lib.hid (by
    rw [← hV]
    exact (At.new w (msC ⟨xk, xu, xs, xl, xc, false⟩) _).grew ((Grew.refl _).alloc _))
  have HR : Hid (At V (w.heap.size + 1) noPdC) := Lib.hid (by
    have := At.new (w.alloc (.cells (msC ⟨xk, xu, xs, xl, xc, false⟩).toArray 33)) noPdC 38
    rw [show (w.alloc (.cells (msC ⟨xk, xu, xs, xl, xc, false⟩).toArray 33)).heap.size = w.heap.size + 1 by simp] at this
    rw [← hV]; exact this)
  clear hV
  go_upto_region 4 with (first
    | (go_at_call 21; refine (HM _ gV).out.mono ?_; rintro y w1 ⟨rfl, g1⟩; have GG := Lib.hid (gV.trans g1))
    | (go_at_call 23; refine (HLa _ GG.out).out.mono ?_; rintro y w2 ⟨rfl, hw2⟩; subst hw2))
  have HAT := Lib.hid (HH.out.at_.grew GG.out)
  have KS : ∀ w', Grew w1 w' → Hid (w'.cell? ⟨r, 0, none⟩ = some (.int .i64 win)) := fun w' k => Lib.hid ((HAT.out.grew k).cell 0 _ rfl)
  have ltw1 := HAT.out.lt
  have G : Grew w1 w1.drew := (Grew.refl w1).drew
  go_region_held3 (fun w' => w'.cell? ⟨r, 0, none⟩ = some (.int .i64 win)) (exact (KS _ G).out) ((first
    | (go_at_call 25; refine (HC _ _ _ hE.out).out.mono ?_; rintro z w4 ⟨rfl, hw4⟩; subst hw4)
    | (go_at_call 24; refine (HK _ (GG.out.trans G)).out.mono ?_; rintro z w3 ⟨gE, LE, rfl, _, hE, g3⟩; replace hE := Lib.hid hE; replace G := G.trans g3)))
  go_upto_region 5 with fail
  have GW := Lib.hid (GG.out.trans G)
  obtain ⟨u0, u1, u2, u3, u4, u5⟩ := At.six (BX.out.grew (g1.trans G))
  have ltu := (BX.out.grew (g1.trans G)).lt
  go_upto_region 6 with (go_at_call 22; refine (HA _ GW.out).out.mono ?_; rintro y w5 ⟨b, cc, rfl, h5, hb5, f5⟩; replace h5 := Lib.hid h5; replace f5 := Lib.hid f5)
  have HR5 := Lib.hid ((HR.out.grew (g1.trans G)).far f5.out hrn)
  have BX5 := Lib.hid ((BX.out.grew (g1.trans G)).far f5.out hxr)
  have F5 := Lib.hid ((Far.of_grew GW.out).trans f5.out)
  have sz1 := (HR.out.grew (g1.trans G)).lt
  have hbn : w.heap.size + 1 ≠ b := by omega
  have hbx : w.heap.size ≠ b := by omega
  have hbr : b ≠ r := h5.out.ne b rfl
  have d0 := h5.out.at_.cell 0 _ rfl
  have d1 := h5.out.at_.cell 1 _ rfl
  have lt5 := h5.out.at_.lt
  have t5 := BX5.out.cell 5 _ rfl
  have ltx := BX5.out.lt
  clear HA HK HC HM HLa HR u0 u1 u2 u3 u4 u5 ltu g1 gV KS HAT BX
  obtain ⟨⟨r0, r1, r2, r3, r4, r5, r6⟩, y0, y1, y2, y3, y4, y5, y6⟩ := At.seven HR5.out
  have ltr := HR5.out.lt
  have HE2 : Hid (∀ W', Far (fun b => b = w.heap.size + 1) w5 W' → DocTold r win L U none w (.returned (.tuple #[.agg #[.int .i64 0, .int .u8 0, .bool false, .int .i64 0, .bool false, .int .i64 0, .bool false], .bool false])) W') := Lib.hid (fun W' f => by
    rw [HU.out]
    refine ⟨_, rfl, h5.out.far f (fun q => hrn q.symm) (fun k e => ?_), fun k e => .inr ?_, F5.out.beyond f (fun k e => .inr (by omega))⟩
    · simp only [Value.ownBlock, Option.some.injEq] at e
      omega
    · simp only [Value.ownBlock, Option.some.injEq] at e
      have := GW.out.size
      omega)
  clear h5 HR5 F5 f5 BX5 GG GW
  generalize w.heap.size + 1 = n0 at *
  go_quiet (fail)
  go_wp2_with fail
  refine bodyPost_ret (by simp [results, Try.results12, go_sem, r0, r1, r2, r3, r4, r5, r6]; try rfl) rfl ?_
  refine HE2.out _ ?_
  repeat (first | (with_reducible exact Far.refl _ _) | (with_reducible refine Far.drewF ?_) | (with_reducible refine Far.setCell (F := fun b => b = n0) ?_ (p := ⟨n0, _, none⟩) rfl _))
  exact Far.of_grew ((Grew.refl w5).drewN nq)
set_option maxRecDepth 100000 in
set_option maxHeartbeats 4000000 in
theorem ref17_Message_isin (w : World) (r : Nat) (win m : Int) (x : Ms) (L : Value) (T : List Tg) (h : RefP w r win L T) (hl : T.length ≤ 100000) (hm : mayT T m = true) (hb : ∀ j, j < T.length → 0 ≤ (tg T j).at_ ∧ (tg T j).at_ ≤ 9223372036854775807) (hc : m ≤ 9223372036854775807) (hkw : 100000000 ≤ win ∧ win ≤ 900000000) (hx : x.next = false) (e : Nat) (he : lastI T T.length = some e) (hi : (tg T e).isin = true) (hq : meetsT T win m x = none) :
    Calls Try.prog 12 #[.pointer (some ⟨r, 0, none⟩), .int .i64 m, x.value] w (DocTold r win L (msgT T win m x) (msgTP T win m x) w) := by
  have HH := Lib.hid h
  have c0 : 0 ≤ m := by
    by_cases q : 0 ≤ m
    · exact q
    · unfold mayT at hm
      rw [decide_eq_false q] at hm
      cases hm
  have e1 : msgT T win m x = T ++ [(⟨m, false, x, false, false⟩ : Tg)] := by unfold msgT; rw [hm, hq]; rfl
  have e2 : msgTP T win m x = none := by unfold msgTP; rw [hm, hq]; rfl
  obtain ⟨xk, xu, xs, xl, xc, xn⟩ := x
  obtain rfl : xn = false := hx
  have HM := fun w' (k : Grew w w') => Lib.hid (ref17_may w' r win L T m (h.grew k) hl)
  have HLa := fun w' (k : Grew w w') => Lib.hid (ref17_last w' r win L T (h.grew k) hl)
  have HK := fun w' (k : Grew w w') => Lib.hid (ref17_kept w' r win L T (h.grew k) hl hb)
  have HC := fun w' g L' (q : RefE w' g L' (keptI T T.length)) => Lib.hid (ref16_Count w' g L' (keptI T T.length) (m - win) m q (keptI_len T _))
  have HA : ∀ w', Grew w w' → Hid (Calls Try.prog 22 #[.pointer (some ⟨r, 0, none⟩), .agg #[.int .i64 m, .bool false, .int .u8 xk, .bool xu, .int .i64 xs, .bool xl, .int .i64 xc, .bool false, .bool false, .bool false]] w' (AddP r win T ⟨m, false, ⟨xk, xu, xs, xl, xc, false⟩, false, false⟩ w')) := fun w' k => Lib.hid (ref17_add w' r win L T ⟨m, false, ⟨xk, xu, xs, xl, xc, false⟩, false, false⟩ (h.grew k) hl)
  rw [hm] at HM
  have hel := (lastI_lt he).1
  have hbe := hb e hel
  rw [he] at HLa
  unfold optI at HLa
  simp only at HLa
  generalize cntE (keptI T T.length) (m - win) m (keptI T T.length).length = N at HC
  generalize keptI T T.length = K at HK HC
  have ew : IntKind.i64.wrap (m - win) = m - win := IntWalk.i64_in _ (by omega)
  rw [e2]
  have HU := Lib.hid e1
  generalize msgT T win m ⟨xk, xu, xs, xl, xc, false⟩ = U at HU e1 ⊢
  have hrn : w.heap.size + 1 ≠ r := by have := h.at_.lt; omega
  have hxr : w.heap.size ≠ r := by have := h.at_.lt; omega
  unfold Ms.value
  have hin := Lib.hid hi
  clear hi he
  clear e1 e2 h hm hb hq
  go_enter Try.func12, Try.ntmps12
  go_upto_region 1 with fail
  generalize hV : World.alloc (World.alloc _ _) _ = V
  have gV : Grew w V := by rw [← hV]; exact ((Grew.refl w).alloc _).alloc _
  have BX : Hid (At V w.heap.size (msC ⟨xk, xu, xs, xl, xc, false⟩)) := Lib.hid (by
    rw [← hV]
    exact (At.new w (msC ⟨xk, xu, xs, xl, xc, false⟩) _).grew ((Grew.refl _).alloc _))
  have HR : Hid (At V (w.heap.size + 1) noPdC) := Lib.hid (by
    have := At.new (w.alloc (.cells (msC ⟨xk, xu, xs, xl, xc, false⟩).toArray 33)) noPdC 38
    rw [show (w.alloc (.cells (msC ⟨xk, xu, xs, xl, xc, false⟩).toArray 33)).heap.size = w.heap.size + 1 by simp] at this
    rw [← hV]; exact this)
  clear hV
  go_upto_region 4 with (first
    | (go_at_call 21; refine (HM _ gV).out.mono ?_; rintro y w1 ⟨rfl, g1⟩; have GG := Lib.hid (gV.trans g1))
    | (go_at_call 23; refine (HLa _ GG.out).out.mono ?_; rintro y w2 ⟨rfl, hw2⟩; subst hw2))
  have HAT := Lib.hid (HH.out.at_.grew GG.out)
  have KS : ∀ w', Grew w1 w' → Hid (w'.cell? ⟨r, 0, none⟩ = some (.int .i64 win)) := fun w' k => Lib.hid ((HAT.out.grew k).cell 0 _ rfl)
  have ltw1 := HAT.out.lt
  have G : Grew w1 w1.drew := (Grew.refl w1).drew
  go_region_held3 (fun w' => w'.cell? ⟨r, 0, none⟩ = some (.int .i64 win)) (exact (KS _ G).out) ((first
    | (go_at_call 25; refine (HC _ _ _ hE.out).out.mono ?_; rintro z w4 ⟨rfl, hw4⟩; subst hw4)
    | (go_at_call 24; refine (HK _ (GG.out.trans G)).out.mono ?_; rintro z w3 ⟨gE, LE, rfl, _, hE, g3⟩; replace hE := Lib.hid hE; replace G := G.trans g3)))
  go_upto_region 5 with fail
  have GW := Lib.hid (GG.out.trans G)
  obtain ⟨u0, u1, u2, u3, u4, u5⟩ := At.six (BX.out.grew (g1.trans G))
  have ltu := (BX.out.grew (g1.trans G)).lt
  go_upto_region 6 with (go_at_call 22; refine (HA _ GW.out).out.mono ?_; rintro y w5 ⟨b, cc, rfl, h5, hb5, f5⟩; replace h5 := Lib.hid h5; replace f5 := Lib.hid f5)
  have HR5 := Lib.hid ((HR.out.grew (g1.trans G)).far f5.out hrn)
  have BX5 := Lib.hid ((BX.out.grew (g1.trans G)).far f5.out hxr)
  have F5 := Lib.hid ((Far.of_grew GW.out).trans f5.out)
  have sz1 := (HR.out.grew (g1.trans G)).lt
  have hbn : w.heap.size + 1 ≠ b := by omega
  have hbx : w.heap.size ≠ b := by omega
  have hbr : b ≠ r := h5.out.ne b rfl
  have d0 := h5.out.at_.cell 0 _ rfl
  have d1 := h5.out.at_.cell 1 _ rfl
  have lt5 := h5.out.at_.lt
  have t5 := BX5.out.cell 5 _ rfl
  have ltx := BX5.out.lt
  clear HA HK HC HM HLa HR u0 u1 u2 u3 u4 u5 ltu g1 gV KS HAT BX
  have lj : e < (T ++ [(⟨m, false, ⟨xk, xu, xs, xl, xc, false⟩, false, false⟩ : Tg)]).length := by rw [List.length_append, List.length_singleton]; omega
  have htl : tg (T ++ [(⟨m, false, ⟨xk, xu, xs, xl, xc, false⟩, false, false⟩ : Tg)]) e = tg T e := tg_left hel
  have ca := h5.out.cell e 0 lj (by decide) (.int .i64 (tg T e).at_) (by rw [htl]; rfl)
  rw [Nat.add_zero] at ca
  have c8 := h5.out.cell e 8 lj (by decide) (.bool (tg T e).isin) (by rw [htl]; rfl)
  rw [hin.out] at c8
  have i0 : (0 : Int) ≤ e := by omega
  have i1 : (e : Int) < (T.length : Int) + 1 := by omega
  have de : decide ((e : Int) < 0) = false := decide_eq_false (by omega)
  obtain ⟨⟨r0, r1, r2, r3, r4, r5, r6⟩, y0, y1, y2, y3, y4, y5, y6⟩ := At.seven HR5.out
  have ltr := HR5.out.lt
  have HE2 : Hid (∀ W', Far (fun b => b = w.heap.size + 1) w5 W' → DocTold r win L U none w (.returned (.tuple #[.agg #[.int .i64 0, .int .u8 0, .bool false, .int .i64 0, .bool false, .int .i64 0, .bool false], .bool false])) W') := Lib.hid (fun W' f => by
    rw [HU.out]
    refine ⟨_, rfl, h5.out.far f (fun q => hrn q.symm) (fun k e => ?_), fun k e => .inr ?_, F5.out.beyond f (fun k e => .inr (by omega))⟩
    · simp only [Value.ownBlock, Option.some.injEq] at e
      omega
    · simp only [Value.ownBlock, Option.some.injEq] at e
      have := GW.out.size
      omega)
  clear h5 HR5 F5 f5 BX5 GG GW
  generalize w.heap.size + 1 = n0 at *
  go_quiet (fail)
  go_wp2_with fail
  refine bodyPost_ret (by simp [results, Try.results12, go_sem, r0, r1, r2, r3, r4, r5, r6]; try rfl) rfl ?_
  refine HE2.out _ ?_
  repeat (first | (with_reducible exact Far.refl _ _) | (with_reducible refine Far.drewF ?_) | (with_reducible refine Far.setCell (F := fun b => b = n0) ?_ (p := ⟨n0, _, none⟩) rfl _))
  exact Far.of_grew ((Grew.refl w5).drewN nq)
-- MSG]
end Go.Proofs.Ytkijonnbngnliaa
