/-
  The laws of SiRF messages: an argument that is a message; a message written. The program's calls are handed in.
-/
import Derived.Test.YtjjpfbdcfifofaaSrlA
import Derived.ProofKit
import Derived.OpenShut
namespace Go.Proofs.Ytjjpfbdcfifofaa
open Go.RowKit Go.ChangeShapes Go.WideShapes
set_option linter.unusedVariables false

theorem cellsSirf : Try.prog.cellsOf 26 = 2 := by kernel_rfl
theorem cellsSrfV : Try.prog.cellsOf 24 = 1 := by kernel_rfl
theorem cellsSrfU : Try.prog.cellsOf 5 = 1 := by kernel_rfl
theorem list2s {α : Type} {l : List α} (h : l.length = 2) : ∃ a b, l = [a, b] := by
  match l, h with
  | [a, b], _ => exact ⟨a, b, rfl⟩
theorem arr2s {cs : Array Value} (h : cs.size = 2) : ∃ x y, cs = #[x, y] := by
  obtain ⟨l⟩ := cs
  obtain ⟨a, b, rfl⟩ := list2s (l := l) h
  exact ⟨a, b, rfl⟩
set_option maxHeartbeats 1000000 in
theorem open_sirf {H : Type} {enc : TypeId × Value → H} {W : World} {fuel : Nat} {c0 c1 : Value} {d : DataW H} {p : List MemPlace}
    (hf : DataW.trod enc Try.prog W 0 (fun _ => true) true fuel 26 [c0, c1] = some (d, p)) :
    ∃ (a : Nat) (A : Option Addr) (c : Nat) (zs : List Int), c0 = .int .u8 (a : Nat) ∧ c1 = .slice A zs.length c ∧ RowZ .i64 W (.slice A zs.length c) zs ∧ I64 zs ∧ a < 256 := by
  obtain ⟨xs, n', _, hx', _, hlen', hg⟩ := DataW.trod_struct Try.underlying26 hf
  obtain ⟨y0, y1, rfl⟩ := list2s hlen'
  have g0 := hg 0 _ rfl
  have g1 := hg 1 _ rfl
  simp only [List.getElem_toArray, List.getElem_cons_zero, List.getElem_cons_succ, cellsSrfU, cellsSrfV, List.drop_zero, List.drop_succ_cons, List.take_succ_cons, List.take_zero, List.getElem?_cons_zero, List.getElem?_cons_succ] at g0 g1
  obtain ⟨k, e0, r0, w0⟩ := DataW.trod_int Try.underlying5 g0
  simp only [List.cons.injEq, and_true] at e0
  subst e0 r0
  have hk := bounds_u8 w0
  obtain ⟨kn, rfl⟩ : ∃ kn : Nat, k = kn := ⟨k.toNat, by omega⟩
  rcases open_ints Try.underlying24 Try.underlying2 (by kernel_rfl) g1 with ⟨hcs2, hy⟩ | ⟨a', len', cap', zs, hcs2, hb2, hl2, hm2, hz2, hy, hcell, hwz⟩
  · simp only [List.cons.injEq, and_true] at hcs2
    subst hcs2
    exact ⟨kn, none, 0, [], rfl, rfl, RowZ.nil _ _, i64_lit (by decide), by omega⟩
  · simp only [List.cons.injEq, and_true] at hcs2
    subst hcs2
    simp only [if_true] at hz2
    have hll : (zs.take len').length = len' := by simp; omega
    refine ⟨kn, some a', cap', zs.take len', rfl, by rw [hll], RowZ.ofY hl2 hz2 hcell, fun i => ?_, by omega⟩
    by_cases hi : i < (zs.take len').length
    · rw [zi_lt hi]
      exact bounds_i64 (hwz _ (List.mem_of_mem_take (List.getElem_mem hi)))
    · unfold zi
      rw [List.getD_eq_getElem?_getD, List.getElem?_eq_none (by omega)]
      simp
-- [WRITES
set_option maxRecDepth 100000 in
set_option maxHeartbeats 4000000 in
theorem law_SirfWrites (C : SirfCalls) (a : Nat) (v : Value) (zs : List Int) (w : World) (ha : a < 256) (hr : RowZ .i64 w v zs) (hz : I64 zs) :
    Calls Try.prog 4 #[.agg #[.int .u8 (a : Nat), v]] w fun e w' => e = .returned (.bool true) ∧ Grew w w' := by
  have HKN := fun w => Lib.hid (law_known13 C w)
  have HR := Lib.hid hr
  obtain ⟨SA, sc, rfl, hsc⟩ := hr.form
  by_cases hbig : 40 < zs.length
  · have n1 : (40 : Int) < zs.length := by omega
    clear hr
    go_enter Try.func4, Try.ntmps4
    go_upto_region 1 with fail
    obtain ⟨W, hW, g0, T0⟩ := twoC_new w (.int .u8 (a : Nat)) (.slice SA zs.length sc) 26
    rw [hW]
    clear hW
    obtain ⟨_, s0, s1, _, _⟩ := T0
    go_wp2_with (go_at_call 6; refine (HKN _).out.mono ?_; rintro e w1 ⟨rfl, g1⟩)
    go_ret
    exact ⟨rfl, g0.trans g1⟩
  · have n1 : ¬ (40 : Int) < zs.length := by omega
    have HP := fun v w hr => C.pay a v zs w ha hr hz (by omega)
    have HE := fun v w hr => C.enc a v zs w ha hr hz (by omega)
    have HD := fun v w hr => ref13_Payload a v zs w ha hr hz (by omega)
    have HF := fun v w hr => ref13_Encode a v zs w ha hr hz (by omega)
    have HS := fun v1 v2 w' h1 h2 => ref13_Same a a v1 v2 zs zs w' h1 h2 (by omega)
    simp only [decide_true, Bool.and_true] at HS
    generalize srfPay a zs = r at *
    generalize srfEnc a zs = q at *
    unfold PayR at HP HE HD HF
    generalize r.2 = re at *
    generalize r.1 = L at *
    generalize q.2 = qe at *
    generalize q.1 = M at *
    replace HP := fun v w hr => Lib.hid (HP v w hr)
    replace HE := fun v w hr => Lib.hid (HE v w hr)
    replace HD := fun v w hr => Lib.hid (HD v w hr)
    replace HF := fun v w hr => Lib.hid (HF v w hr)
    replace HS := fun v1 v2 w' h1 h2 => Lib.hid (HS v1 v2 w' h1 h2)
    clear hr
    go_enter Try.func4, Try.ntmps4
    go_upto_region 1 with fail
    obtain ⟨W, hW, g0, T0⟩ := twoC_new w (.int .u8 (a : Nat)) (.slice SA zs.length sc) 26
    have hsz : W.heap.size = w.heap.size + 1 := by rw [← hW]; simp
    rw [hW]
    clear hW
    have T1 := Lib.hid T0
    obtain ⟨_, s0, s1, _, _⟩ := T0
    obtain ⟨V, hV, gV, TV⟩ := twoC_new W (.int .u8 (a : Nat)) (.slice SA zs.length sc) 26
    rw [hsz] at TV
    have hvs : w.heap.size + 1 < V.heap.size := TV.lt
    have TV' := Lib.hid TV
    have HO1 := own_litY (B := V.heap.size) V .i64 2 (Nat.le_refl _)
    have HR1 := HR.out.grew (g0.trans (gV.trans ((Grew.refl V).alloc (.cells #[] 2))))
    have T1V := Lib.hid (T1.out.grew gV)
    go_upto_region 4 with fail
    try rw [hV]
    clear hV
    obtain ⟨_, s0, s1, _, _⟩ := T1V.out
    obtain ⟨_, y0, y1, f0, f1⟩ := TV
    go_upto_region 5 with (refine wpList_joinY _ rfl _ _ 24 rfl V.heap.size 2 .i64 8 Try.underlying24 infoI64 (.slice (some ⟨V.heap.size, 0, none⟩) 0 0) [] rfl HO1 _ zs rfl HR1 (by simp only [List.length_nil]; omega) (by decide) (by simp) ?_; intro v2 w2 hown hgrow; rw [List.nil_append] at hown; have hrw := hown.row; obtain ⟨A2, c2, rfl, _⟩ := hrw.form; have G2 := Grew.pushW ((Grew.refl V).alloc (.cells #[] 2)) HO1 (Nat.le_refl _) hgrow; have T2 := TV'.out.grew G2; have y2' := T2.c1; have f2' := T2.f1)
    have FX := (Far.refl (fun x => x = w.heap.size + 1) w2).setCell (p := ⟨w.heap.size + 1, 1, none⟩) rfl (.slice A2 zs.length c2)
    have TX2 := Lib.hid (T2.put1 (.slice A2 zs.length c2))
    have TX1 := Lib.hid ((T1V.out.grew G2).far FX (by show ¬ w.heap.size = _; omega))
    have KIN := Lib.hid (hrw.far FX (fun x hx e => by have := hown.lt x hx; have e : x = w.heap.size + 1 := e; omega))
    have KAR := Lib.hid ((HR.out.grew (g0.trans (gV.trans G2))).far3 FX (fun h0 x hx e => by
      have e : x = w.heap.size + 1 := e
      obtain ⟨b', o', e2, hb2, _⟩ := HR.out.at_ h0
      rw [e2] at hx
      simp only [Value.ownBlock, Option.some.injEq] at hx
      omega))
    have GX := Lib.hid (((g0.trans gV).trans G2).setCell (p := ⟨w.heap.size + 1, 1, none⟩) (by show _ ≤ w.heap.size + 1; omega) (.slice A2 zs.length c2))
    generalize w2.setCell ⟨w.heap.size + 1, 1, none⟩ (.slice A2 zs.length c2) = X at *
    clear FX hrw hown hgrow HO1 HR1 T1V TV' s0 s1 y0 y1 f0 f1 y2' f2' T2 T1
    obtain ⟨_, s0, s1, _, _⟩ := TX1.out
    obtain ⟨_, y0, y1, _, _⟩ := TX2.out
    have HC := HP _ _ KIN.out
    go_upto_region 6 with (go_at_call 10; refine HC.out.mono ?_; rintro e w3 ⟨p1, rfl, hrow, _, g⟩; obtain ⟨Ap1, cp1, rfl, _⟩ := hrow.form)
    have TX1 := Lib.hid (TX1.out.grew g)
    have TX2 := Lib.hid (TX2.out.grew g)
    have KIN := Lib.hid (KIN.out.grew g)
    have KAR := Lib.hid (KAR.out.grew g)
    have GX := Lib.hid (GX.out.trans g)
    have Rp1 := Lib.hid hrow
    clear hrow g HC s0 s1 y0 y1 HP
    obtain ⟨_, s0, s1, _, _⟩ := TX1.out
    obtain ⟨_, y0, y1, _, _⟩ := TX2.out
    have HC := HD _ _ KAR.out
    go_upto_region 7 with (go_at_call 11; refine HC.out.mono ?_; rintro e w4 ⟨p2, rfl, hrow, _, g⟩; obtain ⟨Ap2, cp2, rfl, _⟩ := hrow.form)
    have TX1 := Lib.hid (TX1.out.grew g)
    have TX2 := Lib.hid (TX2.out.grew g)
    have KIN := Lib.hid (KIN.out.grew g)
    have KAR := Lib.hid (KAR.out.grew g)
    have GX := Lib.hid (GX.out.trans g)
    have Rp2 := Lib.hid hrow
    have Rp1 := Lib.hid (Rp1.out.grew g)
    clear hrow g HC s0 s1 y0 y1 HD
    obtain ⟨_, s0, s1, _, _⟩ := TX1.out
    obtain ⟨_, y0, y1, _, _⟩ := TX2.out
    have HC := HE _ _ KIN.out
    go_upto_region 8 with (go_at_call 12; refine HC.out.mono ?_; rintro e w5 ⟨p3, rfl, hrow, _, g⟩; obtain ⟨Ap3, cp3, rfl, _⟩ := hrow.form)
    have TX1 := Lib.hid (TX1.out.grew g)
    have TX2 := Lib.hid (TX2.out.grew g)
    have KIN := Lib.hid (KIN.out.grew g)
    have KAR := Lib.hid (KAR.out.grew g)
    have GX := Lib.hid (GX.out.trans g)
    have Rp3 := Lib.hid hrow
    have Rp1 := Lib.hid (Rp1.out.grew g)
    have Rp2 := Lib.hid (Rp2.out.grew g)
    clear hrow g HC s0 s1 y0 y1 HE
    obtain ⟨_, s0, s1, _, _⟩ := TX1.out
    obtain ⟨_, y0, y1, _, _⟩ := TX2.out
    have HC := HF _ _ KAR.out
    go_upto_region 9 with (go_at_call 13; refine HC.out.mono ?_; rintro e w6 ⟨p4, rfl, hrow, _, g⟩; obtain ⟨Ap4, cp4, rfl, _⟩ := hrow.form)
    have TX1 := Lib.hid (TX1.out.grew g)
    have TX2 := Lib.hid (TX2.out.grew g)
    have KIN := Lib.hid (KIN.out.grew g)
    have KAR := Lib.hid (KAR.out.grew g)
    have GX := Lib.hid (GX.out.trans g)
    have Rp4 := Lib.hid hrow
    have Rp1 := Lib.hid (Rp1.out.grew g)
    have Rp2 := Lib.hid (Rp2.out.grew g)
    have Rp3 := Lib.hid (Rp3.out.grew g)
    clear hrow g HC s0 s1 y0 y1 HF
    obtain ⟨_, s0, s1, _, _⟩ := TX1.out
    obtain ⟨_, y0, y1, _, _⟩ := TX2.out
    have q1 := Row.string _ Rp1.out 22 5 Try.underlying22 Try.underlying5 9 Try.underlying9
    have q2 := Row.string _ Rp2.out 22 5 Try.underlying22 Try.underlying5 9 Try.underlying9
    have q3 := Row.string _ Rp3.out 22 5 Try.underlying22 Try.underlying5 9 Try.underlying9
    have q4 := Row.string _ Rp4.out 22 5 Try.underlying22 Try.underlying5 9 Try.underlying9
    have HS1 := HS _ _ w6 KIN.out KAR.out
    clear HS
    go_wp2_with (first
      | (go_at_call 9; refine HS1.out.mono ?_; rintro e w7 ⟨rfl, g7⟩)
      | (go_at_call 6; refine (HKN _).out.mono ?_; rintro e w8 ⟨rfl, g8⟩))
    go_ret
    exact ⟨by simp, (GX.out.trans g7).trans g8⟩
-- WRITES]
end Go.Proofs.Ytjjpfbdcfifofaa
