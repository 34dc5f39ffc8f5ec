/-
  The laws of UBX messages: an argument that is a message; a message written.
-/
import Derived.Test.YtaaphnlkfmaeeaaUblA
import Derived.ProofKit
import Derived.OpenShut
namespace Go.Proofs.Ytaaphnlkfmaeeaa
open Go.RowKit Go.ChangeShapes Go.WideShapes
set_option linter.unusedVariables false

theorem cellsUbx : Try.prog.cellsOf 26 = 3 := by kernel_rfl
theorem cellsUbxV : Try.prog.cellsOf 24 = 1 := by kernel_rfl
theorem cellsUbxU : Try.prog.cellsOf 5 = 1 := by kernel_rfl
theorem list3u {α : Type} {l : List α} (h : l.length = 3) : ∃ a b c, l = [a, b, c] := by
  match l, h with
  | [a, b, c], _ => exact ⟨a, b, c, rfl⟩
theorem arr3u {cs : Array Value} (h : cs.size = 3) : ∃ x y z, cs = #[x, y, z] := by
  obtain ⟨l⟩ := cs
  obtain ⟨a, b, c, rfl⟩ := list3u (l := l) h
  exact ⟨a, b, c, rfl⟩
theorem RowZ.of {w : World} {x : Addr} {len cap : Nat} {zs : List Int} (hl : len ≤ cap) (hz : zs.length = cap) (hcell : ∀ i, i < zs.length → w.cell? (x.add i) = some (.int .i64 (zs.getD i 0))) : RowZ .i64 w (.slice (some x) (zs.take len).length cap) (zs.take len) := by
  have hlen : (zs.take len).length = len := by simp; omega
  refine ⟨some x, cap, rfl, by omega, fun hp => ?_⟩
  rw [hlen] at hp
  have hc0 := hcell 0 (by omega)
  obtain ⟨b, o, spot⟩ := x
  have hs : spot = none := by simpa [Addr.add] using World.cell?_spot hc0
  subst hs
  refine ⟨b, o, rfl, World.block_lt_of_cell? w ⟨b, o, none⟩ (by simpa [Addr.add] using hc0), fun i hi => ?_⟩
  rw [hlen] at hi
  have := hcell i (by omega)
  rw [show (⟨b, o, none⟩ : Addr).add i = ⟨b, o + i, none⟩ by unfold Addr.add; split <;> simp_all] at this
  rw [this]
  unfold zi
  rw [List.getD_eq_getElem?_getD, List.getD_eq_getElem?_getD, List.getElem?_take, if_pos hi]
theorem RowZ.far2 {F : Nat → Prop} {k : IntKind} {w w' : World} {v : Value} {zs : List Int} (h : RowZ k w v zs) (g : Far F w w') (hF : 0 < zs.length → ∀ b, v.ownBlock = some b → ¬ F b) : RowZ k w' v zs := by
  obtain ⟨A, c, rfl, hc, hr⟩ := h
  refine ⟨A, c, rfl, hc, fun hn => ?_⟩
  obtain ⟨b, o, rfl, hb, hcell⟩ := hr hn
  exact ⟨b, o, rfl, Nat.lt_of_lt_of_le hb g.size, fun i hi => (g.cell (p := ⟨b, o + i, none⟩) hb (hF hn b rfl)).trans (hcell i hi)⟩
set_option maxHeartbeats 1000000 in
theorem open_ubx {H : Type} {enc : TypeId × Value → H} {W : World} {fuel : Nat} {c0 c1 c2 : Value} {d : DataW H} {p : List MemPlace}
    (hf : DataW.trod enc Try.prog W 0 (fun _ => true) true fuel 26 [c0, c1, c2] = some (d, p)) :
    ∃ (a b : Nat) (A : Option Addr) (c : Nat) (zs : List Int), c0 = .int .u8 (a : Nat) ∧ c1 = .int .u8 (b : Nat) ∧ c2 = .slice A zs.length c ∧ RowZ .i64 W (.slice A zs.length c) zs ∧ In64 zs ∧ a < 256 ∧ b < 256 := by
  obtain ⟨xs, n', _, hx', _, hlen', hg⟩ := DataW.trod_struct Try.underlying26 hf
  obtain ⟨y0, y1, y2, rfl⟩ := list3u hlen'
  have g0 := hg 0 _ rfl
  have g1 := hg 1 _ rfl
  have g2 := hg 2 _ rfl
  simp only [List.getElem_toArray, List.getElem_cons_zero, List.getElem_cons_succ, cellsUbxU, cellsUbxV, List.drop_zero, List.drop_succ_cons, List.take_succ_cons, List.take_zero, List.getElem?_cons_zero, List.getElem?_cons_succ] at g0 g1 g2
  obtain ⟨k, e0, r0, w0⟩ := DataW.trod_int Try.underlying5 g0
  simp only [List.cons.injEq, and_true] at e0
  obtain ⟨k1, e1, r1, w1⟩ := DataW.trod_int Try.underlying5 g1
  simp only [List.cons.injEq, and_true] at e1
  subst e0 r0 e1 r1
  have hk := bounds_u8 w0
  have hk1 := bounds_u8 w1
  obtain ⟨kn, rfl⟩ : ∃ kn : Nat, k = kn := ⟨k.toNat, by omega⟩
  obtain ⟨kn1, rfl⟩ : ∃ kn : Nat, k1 = kn := ⟨k1.toNat, by omega⟩
  rcases open_ints Try.underlying24 Try.underlying2 (by kernel_rfl) g2 with ⟨hcs2, hy⟩ | ⟨a', len', cap', zs, hcs2, hb2, hl2, hm2, hz2, hy, hcell, hwz⟩
  · simp only [List.cons.injEq, and_true] at hcs2
    subst hcs2
    exact ⟨kn, kn1, none, 0, [], rfl, rfl, rfl, RowZ.nil _ _, in64_lit (by decide), by omega, by omega⟩
  · simp only [List.cons.injEq, and_true] at hcs2
    subst hcs2
    simp only [if_true] at hz2
    have hll : (zs.take len').length = len' := by simp; omega
    refine ⟨kn, kn1, some a', cap', zs.take len', rfl, rfl, by rw [hll], RowZ.of hl2 hz2 hcell, fun i => ?_, by omega, by omega⟩
    by_cases hi : i < (zs.take len').length
    · rw [zi_lt hi]
      exact bounds_i64 (hwz _ (List.mem_of_mem_take (List.getElem_mem hi)))
    · unfold zi
      rw [List.getD_eq_getElem?_getD, List.getElem?_eq_none (by omega)]
      simp
section
variable {P : Program} (w : World)
/-- 'append(out, in...)' of integers, the row the call's own. -/
theorem wpList_joinZ {ops : Array Oper} {rest : List Oper} {o : Oper} {a : Act} {Q : Exit → Act → World → Prop} (hgd : o.guard = none) (s x : Operand) (t : TypeId)
    (ho : o.op = .call { callee := .builtin .append, args := #[s, x], argTypes := #[t, t] })
    (base : Nat) (E : TypeId) (k : IntKind) (bytes : Nat) (ht : P.underlying t = some (.slice E)) (hi : (P.info? E).map (fun i => (i.zero, i.size, i.bytes)) = some (some (.int k 0), 1, bytes))
    (v : Value) (ns : List Int) (hs : a.eval s = v) (hown : OwnZ base E k w v ns)
    (u : Value) (ms : List Int) (hx : a.eval x = u) (hrow : RowZ k w u ms)
    (hlen : (ns.length + ms.length) * bytes ≤ 140737488355328) (hb : 0 < bytes) (hbase : base ≤ w.heap.size)
    (h : ∀ v' w', OwnZ base E k w' v' (ns ++ ms) → w.grownBy w' v.ownBlock → wpList P ops Q rest (a.put o.dst v') w') : wpList P ops Q (o :: rest) a w := by
  refine wpList_plain hgd fun K hK => ?_
  obtain ⟨i, hi0, hz0, hz1, hz2⟩ := info_parts hi
  obtain ⟨A, c, rfl, hc, hr⟩ := hrow
  have hmax : ns.length + ms.length ≤ maxLen := by
    have := Nat.le_mul_of_pos_right (ns.length + ms.length) hb
    unfold maxLen; omega
  have he : ∀ v' w', w'.ownsRow base E 1 v' (ns.length + ms.length) (cellsZ k ns ++ cellsZ k ms) → OwnZ base E k w' v' (ns ++ ms) := fun v' w' h1 => by
    unfold OwnZ
    simpa [cellsZ] using h1
  rcases A with _ | ad
  · have h0 : ms = [] := by
      rcases Nat.eq_zero_or_pos ms.length with h | h
      · exact List.eq_nil_of_length_eq_zero h
      · obtain ⟨b, o, e, _⟩ := hr h; cases e
    subst h0
    have hrun := run_join_nil (P := P) w base t o.type E i 1 ht hi0 v ns.length (cellsZ k ns) hown c
    unfold Oper.wp
    have hx' : a.eval x = .slice none 0 c := hx
    simp [execOp, ho, resolve, invoke, builtin, hs, hx', hrun, Result.andThen]
    exact hK _ _ (h v w (by rw [List.append_nil]; exact hown) (World.grownBy.refl w _))
  · refine wp_append_own w s x t ho base E i (.int k 0) 1 bytes ht hi0 hz0 hz1 hz2 rfl (by decide) v ns.length (cellsZ k ns) hs hown ad ms.length c (cellsZ k ms) hx (by simp [cellsZ]) ?_ ?_ hmax hlen hbase (fun v' w' h1 h2 h3 => hK _ _ (h v' w' (he v' w' h1) h2))
    · intro j z hj
      have hj' : j < ms.length := by have := (List.getElem?_eq_some_iff.1 hj).1; simpa [cellsZ] using this
      obtain ⟨b, o, e, hbl, hcell⟩ := hr (by omega)
      cases e
      rw [show (⟨b, o, none⟩ : Addr).add j = ⟨b, o + j, none⟩ by unfold Addr.add; split <;> simp_all, hcell j hj', ← hj]
      simp [cellsZ, zi, hj']
    · intro z hz
      simp only [cellsZ, List.mem_map] at hz
      obtain ⟨n, _, rfl⟩ := hz
      rfl
end
theorem own_litZ {B : Nat} (w : World) (k : IntKind) (E : TypeId) (hB : B ≤ w.heap.size) : OwnZ B E k (w.alloc (.cells #[] E)) (.slice (some ⟨w.heap.size, 0, none⟩) 0 0) [] :=
  ⟨by simp [cellsZ], .inr ⟨_, 0, _, rfl, hB, heap_alloc_new w _, Nat.le_refl _, Nat.zero_le _, by simp, by simp [cellsZ]⟩⟩
theorem Grew.pushY {w0 w w' : World} {B : Nat} {E : TypeId} {k : IntKind} {v : Value} {ns : List Int} (g : Grew w0 w) (h : OwnZ B E k w v ns) (hB : w0.heap.size ≤ B) (hg : w.grownBy w' v.ownBlock) : Grew w0 w' :=
  Below.grown g hg g.size (fun b hb => Nat.le_trans hB (World.ownsRow.lt h b hb).1)
-- [WRITES
set_option maxRecDepth 100000 in
set_option maxHeartbeats 4000000 in
theorem law_UbxWrites (a b : Nat) (v : Value) (zs : List Int) (w : World) (ha : a < 256) (hb : b < 256) (hr : RowZ .i64 w v zs) (hz : In64 zs) :
    Calls Try.prog 4 #[.agg #[.int .u8 (a : Nat), .int .u8 (b : Nat), v]] w fun e w' => e = .returned (.bool true) ∧ Grew w w' := by
  have HKN := fun w => Lib.hid (law_known12 w)
  have HR := Lib.hid hr
  obtain ⟨SA, sc, rfl, hsc⟩ := hr.form
  by_cases hbig : 40 < zs.length
  · have n1 : (40 : Int) < zs.length := by omega
    clear hr
    go_enter Try.func4, Try.ntmps4
    go_upto_region 1 with fail
    obtain ⟨W, hW, g0, T0⟩ := three_new w (.int .u8 (a : Nat)) (.int .u8 (b : Nat)) (.slice SA zs.length sc) 26
    rw [hW]
    clear hW
    obtain ⟨_, s0, s1, s2, _, _, _⟩ := T0
    go_wp2_with (go_at_call 6; refine (HKN _).out.mono ?_; rintro e w1 ⟨rfl, g1⟩)
    go_ret
    exact ⟨rfl, g0.trans g1⟩
  · have n1 : ¬ (40 : Int) < zs.length := by omega
    have HP := fun v w hr => ubp_Payload a b v zs w ha hb hr hz (by omega)
    have HE := fun v w hr => ubp_Encode a b v zs w ha hb hr hz (by omega)
    have HD := fun v w hr => ref12_Payload a b v zs w ha hb hr hz (by omega)
    have HF := fun v w hr => ref12_Encode a b v zs w ha hb hr hz (by omega)
    have HS := fun v1 v2 w' h1 h2 => ref12_Same a b a b v1 v2 zs zs w' h1 h2 (by omega)
    simp only [decide_true, Bool.and_true] at HS
    generalize ubxPay (a * 256 + b) zs = r at *
    generalize ubxEnc (a * 256 + b) zs = q at *
    unfold PayT at HP HE
    unfold PayR at HD HF
    generalize r.2 = re at *
    generalize r.1 = L at *
    generalize q.2 = qe at *
    generalize q.1 = M at *
    replace HP := fun v w hr => Lib.hid (HP v w hr)
    replace HE := fun v w hr => Lib.hid (HE v w hr)
    replace HD := fun v w hr => Lib.hid (HD v w hr)
    replace HF := fun v w hr => Lib.hid (HF v w hr)
    replace HS := fun v1 v2 w' h1 h2 => Lib.hid (HS v1 v2 w' h1 h2)
    clear hr
    go_enter Try.func4, Try.ntmps4
    go_upto_region 1 with fail
    obtain ⟨W, hW, g0, T0⟩ := three_new w (.int .u8 (a : Nat)) (.int .u8 (b : Nat)) (.slice SA zs.length sc) 26
    have hsz : W.heap.size = w.heap.size + 1 := by rw [← hW]; simp
    rw [hW]
    clear hW
    have T1 := Lib.hid T0
    obtain ⟨_, s0, s1, s2, _, _, _⟩ := T0
    obtain ⟨V, hV, gV, TV⟩ := three_new W (.int .u8 (a : Nat)) (.int .u8 (b : Nat)) (.slice SA zs.length sc) 26
    rw [hsz] at TV
    have hvs : w.heap.size + 1 < V.heap.size := TV.lt
    have TV' := Lib.hid TV
    have HO1 := own_litZ (B := V.heap.size) V .i64 2 (Nat.le_refl _)
    have HR1 := HR.out.grew (g0.trans (gV.trans ((Grew.refl V).alloc (.cells #[] 2))))
    have T1V := Lib.hid (T1.out.grew gV)
    go_upto_region 4 with fail
    try rw [hV]
    clear hV
    obtain ⟨_, s0, s1, s2, _, _, _⟩ := T1V.out
    obtain ⟨_, y0, y1, y2, f0, f1, f2⟩ := TV
    go_upto_region 5 with (refine wpList_joinZ _ rfl _ _ 24 rfl V.heap.size 2 .i64 8 Try.underlying24 infoI64 (.slice (some ⟨V.heap.size, 0, none⟩) 0 0) [] rfl HO1 _ zs rfl HR1 (by simp only [List.length_nil]; omega) (by decide) (by simp) ?_; intro v2 w2 hown hgrow; rw [List.nil_append] at hown; have hrw := hown.row; obtain ⟨A2, c2, rfl, _⟩ := hrw.form; have G2 := Grew.pushY ((Grew.refl V).alloc (.cells #[] 2)) HO1 (Nat.le_refl _) hgrow; have T2 := TV'.out.grew G2; have y2' := T2.c2; have f2' := T2.f2)
    have FX := (Far.refl (fun x => x = w.heap.size + 1) w2).setCell (p := ⟨w.heap.size + 1, 2, none⟩) rfl (.slice A2 zs.length c2)
    have TX2 := Lib.hid (T2.put2 (.slice A2 zs.length c2))
    have TX1 := Lib.hid ((T1V.out.grew G2).far FX (by show ¬ w.heap.size = _; omega))
    have KIN := Lib.hid (hrw.far FX (fun x hx e => by have := hown.lt x hx; have e : x = w.heap.size + 1 := e; omega))
    have KAR := Lib.hid ((HR.out.grew (g0.trans (gV.trans G2))).far2 FX (fun h0 x hx e => by
      have e : x = w.heap.size + 1 := e
      obtain ⟨b', o', e2, hb2, _⟩ := HR.out.at_ h0
      rw [e2] at hx
      simp only [Value.ownBlock, Option.some.injEq] at hx
      omega))
    have GX := Lib.hid (((g0.trans gV).trans G2).setCell (p := ⟨w.heap.size + 1, 2, none⟩) (by show _ ≤ w.heap.size + 1; omega) (.slice A2 zs.length c2))
    generalize w2.setCell ⟨w.heap.size + 1, 2, none⟩ (.slice A2 zs.length c2) = X at *
    clear FX hrw hown hgrow HO1 HR1 T1V TV' s0 s1 s2 y0 y1 y2 f0 f1 f2 y2' f2' T2 T1
    obtain ⟨_, s0, s1, s2, _, _, _⟩ := TX1.out
    obtain ⟨_, y0, y1, y2, _, _, _⟩ := TX2.out
    have HC := HP _ _ KIN.out
    go_upto_region 6 with (go_at_call 10; refine HC.out.mono ?_; rintro e w3 ⟨p1, rfl, hrow, _, g⟩; obtain ⟨Ap1, cp1, rfl, _⟩ := hrow.form)
    have TX1 := Lib.hid (TX1.out.grew g)
    have TX2 := Lib.hid (TX2.out.grew g)
    have KIN := Lib.hid (KIN.out.grew g)
    have KAR := Lib.hid (KAR.out.grew g)
    have GX := Lib.hid (GX.out.trans g)
    have Rp1 := Lib.hid hrow
    clear hrow g HC s0 s1 s2 y0 y1 y2 HP
    obtain ⟨_, s0, s1, s2, _, _, _⟩ := TX1.out
    obtain ⟨_, y0, y1, y2, _, _, _⟩ := TX2.out
    have HC := HD _ _ KAR.out
    go_upto_region 7 with (go_at_call 11; refine HC.out.mono ?_; rintro e w4 ⟨p2, rfl, hrow, _, g⟩; obtain ⟨Ap2, cp2, rfl, _⟩ := hrow.form)
    have TX1 := Lib.hid (TX1.out.grew g)
    have TX2 := Lib.hid (TX2.out.grew g)
    have KIN := Lib.hid (KIN.out.grew g)
    have KAR := Lib.hid (KAR.out.grew g)
    have GX := Lib.hid (GX.out.trans g)
    have Rp2 := Lib.hid hrow
    have Rp1 := Lib.hid (Rp1.out.grew g)
    clear hrow g HC s0 s1 s2 y0 y1 y2 HD
    obtain ⟨_, s0, s1, s2, _, _, _⟩ := TX1.out
    obtain ⟨_, y0, y1, y2, _, _, _⟩ := TX2.out
    have HC := HE _ _ KIN.out
    go_upto_region 8 with (go_at_call 12; refine HC.out.mono ?_; rintro e w5 ⟨p3, rfl, hrow, _, g⟩; obtain ⟨Ap3, cp3, rfl, _⟩ := hrow.form)
    have TX1 := Lib.hid (TX1.out.grew g)
    have TX2 := Lib.hid (TX2.out.grew g)
    have KIN := Lib.hid (KIN.out.grew g)
    have KAR := Lib.hid (KAR.out.grew g)
    have GX := Lib.hid (GX.out.trans g)
    have Rp3 := Lib.hid hrow
    have Rp1 := Lib.hid (Rp1.out.grew g)
    have Rp2 := Lib.hid (Rp2.out.grew g)
    clear hrow g HC s0 s1 s2 y0 y1 y2 HE
    obtain ⟨_, s0, s1, s2, _, _, _⟩ := TX1.out
    obtain ⟨_, y0, y1, y2, _, _, _⟩ := TX2.out
    have HC := HF _ _ KAR.out
    go_upto_region 9 with (go_at_call 13; refine HC.out.mono ?_; rintro e w6 ⟨p4, rfl, hrow, _, g⟩; obtain ⟨Ap4, cp4, rfl, _⟩ := hrow.form)
    have TX1 := Lib.hid (TX1.out.grew g)
    have TX2 := Lib.hid (TX2.out.grew g)
    have KIN := Lib.hid (KIN.out.grew g)
    have KAR := Lib.hid (KAR.out.grew g)
    have GX := Lib.hid (GX.out.trans g)
    have Rp4 := Lib.hid hrow
    have Rp1 := Lib.hid (Rp1.out.grew g)
    have Rp2 := Lib.hid (Rp2.out.grew g)
    have Rp3 := Lib.hid (Rp3.out.grew g)
    clear hrow g HC s0 s1 s2 y0 y1 y2 HF
    obtain ⟨_, s0, s1, s2, _, _, _⟩ := TX1.out
    obtain ⟨_, y0, y1, y2, _, _, _⟩ := TX2.out
    have q1 := Row.string _ Rp1.out 22 5 Try.underlying22 Try.underlying5 9 Try.underlying9
    have q2 := Row.string _ Rp2.out 22 5 Try.underlying22 Try.underlying5 9 Try.underlying9
    have q3 := Row.string _ Rp3.out 22 5 Try.underlying22 Try.underlying5 9 Try.underlying9
    have q4 := Row.string _ Rp4.out 22 5 Try.underlying22 Try.underlying5 9 Try.underlying9
    have HS1 := HS _ _ w6 KIN.out KAR.out
    clear HS
    go_wp2_with (first
      | (go_at_call 9; refine HS1.out.mono ?_; rintro e w7 ⟨rfl, g7⟩)
      | (go_at_call 6; refine (HKN _).out.mono ?_; rintro e w8 ⟨rfl, g8⟩))
    go_ret
    exact ⟨by simp, (GX.out.trans g7).trans g8⟩
-- WRITES]
end Go.Proofs.Ytaaphnlkfmaeeaa
