/-
  The program's SiRF messages: a payload read.
-/
import Derived.Test.YtjjpfbdcfifofaaSrpQ
import Derived.Test.YtjjpfbdcfifofaaSrrD
import Derived.OwnWalk
namespace Go.Proofs.Ytjjpfbdcfifofaa
open Go.RowKit
set_option linter.unusedVariables false

theorem smade_one (x : Value) (n : Nat) (h : x.cells = #[x]) : (madeCells x.cells (n * 1)).toList = List.replicate n x := by
  rw [h, Nat.mul_one]
  unfold madeCells
  refine List.ext_getElem (by simp) fun i h1 h2 => ?_
  simp [Nat.mod_one]
section
variable {P : Program} (w : World)
/-- 'make([]T, n)' of integers, n a variable. -/
theorem wpList_makeI {ops : Array Oper} {rest : List Oper} {o : Oper} {a : Act} {Q : Exit → Act → World → Prop} (hgd : o.guard = none) (l c : Operand) (t : TypeId) (hop : o.op = .makeSlice t l c)
    (base : Nat) (E : TypeId) (k : IntKind) (bytes : Nat) (ht : P.underlying t = some (.slice E)) (hi : (P.info? E).map (fun i => (i.zero, i.size, i.bytes)) = some (some (.int k 0), 1, bytes))
    (n : Nat) (hl : a.eval l = .int .i64 (n : Nat)) (hc : a.eval c = .int .i64 (n : Nat)) (hb : bytes * n ≤ 281474976710656) (hm : n ≤ maxLen) (hbase : base ≤ w.heap.size)
    (h : ∀ w', OwnZ base E k w' (.slice (some ⟨w.heap.size, 0, none⟩) n n) (List.replicate n 0) → Grew w w' → wpList P ops Q rest (a.put o.dst (.slice (some ⟨w.heap.size, 0, none⟩) n n)) w') : wpList P ops Q (o :: rest) a w := by
  obtain ⟨i, hi0, hz0, hz1, hz2⟩ := info_parts hi
  refine wpList_make_full w hgd l c t hop base E i (.int k 0) 1 ht hi0 hz0 hz1 .i64 .i64 _ _ n hl hc rfl rfl (by rw [hz2]; exact hb) hm hbase fun w' h1 h2 => h w' ?_ ?_
  · rw [smade_one _ _ rfl] at h1
    unfold OwnZ
    rw [List.length_replicate, show cellsZ k (List.replicate n 0) = List.replicate n (.int k 0) by simp [cellsZ]]
    exact h1
  · exact Below.grown (Grew.refl w) h2 (Nat.le_refl _) (fun b hb => by cases hb)
end
/-- A number of the row is written over. -/
theorem OwnZ.setI {w : World} {B : Nat} {E : TypeId} {k : IntKind} {g c n : Nat} {zs : List Int} (h : OwnZ B E k w (.slice (some ⟨g, 0, none⟩) n c) zs) (j : Nat) (x : Int) (hj : j < zs.length) :
    OwnZ B E k (w.setCell ⟨g, j, none⟩ (.int k x)) (.slice (some ⟨g, 0, none⟩) n c) (zs.set j x) := by
  unfold OwnZ at h ⊢
  rw [List.length_set]
  have hn : n = zs.length := by
    rcases h.2 with ⟨h', _⟩ | ⟨g', cap', cur, h', _⟩
    · simp at h'
    · simp only [Value.slice.injEq] at h'; exact h'.2.1
  subst hn
  have := (World.ownsRow.stored h j (.int k x)).1
  rwa [show (cellsZ k zs).set j (.int k x) = cellsZ k (zs.set j x) by simp [cellsZ, List.map_set]] at this
theorem OwnZ.cellI {w : World} {B : Nat} {E : TypeId} {k : IntKind} {g c n : Nat} {zs : List Int} (h : OwnZ B E k w (.slice (some ⟨g, 0, none⟩) n c) zs) (hn : n = zs.length) (j : Nat) (hj : j < zs.length) : w.cell? ⟨g, j, none⟩ = some (.int k (zi zs j)) ∧ w.frozen? ⟨g, j, none⟩ = false := by
  subst hn
  unfold OwnZ at h
  refine ⟨?_, World.ownsRow.frozenAt h j⟩
  rw [World.ownsRow.cellAt h j (by omega)]
  simp [cellsZ, zi, hj]
/-- The values of the first so many fields, noughts behind. -/
def bvalsPad (S : List Nat) (l : List Int) (K k : Nat) : List Int := bvalsTo S l k ++ List.replicate (K - k) 0
theorem bvalsPad_length (S : List Nat) (l : List Int) (K k : Nat) (h : k ≤ K) : (bvalsPad S l K k).length = K := by
  unfold bvalsPad
  rw [List.length_append, bvalsTo_length, List.length_replicate]
  omega
theorem bvalsPad_set (S : List Nat) (l : List Int) (K k : Nat) (h : k < K) : (bvalsPad S l K k).set k (getB S (zi l (2 * k)).toNat (zi l (2 * k + 1))) = bvalsPad S l K (k + 1) := by
  unfold bvalsPad
  rw [List.set_append_right _ _ (by rw [bvalsTo_length]; exact Nat.le_refl _), bvalsTo_length, Nat.sub_self, show K - k = (K - (k + 1)) + 1 by omega, List.replicate_succ, List.set_cons_zero, bvalsTo, List.append_assoc]
  rfl
theorem bvalsPad_all (S : List Nat) (l : List Int) (K : Nat) : bvalsPad S l K K = bvalsTo S l K := by
  unfold bvalsPad
  rw [Nat.sub_self]
  simp
theorem sneg_abs (m : Nat) (neg : Bool) : (if neg then -(m : Int) else (m : Int)).natAbs = m := by cases neg <;> simp
theorem sneg_lt (m : Nat) (neg : Bool) (h : 0 < m) : decide ((if neg then -(m : Int) else (m : Int)) < 0) = neg := by cases neg <;> simp <;> omega
-- [DEC
set_option maxRecDepth 100000 in
set_option maxHeartbeats 4000000 in
theorem srp_Decode (v : Value) (S : List Nat) (w : World) (hr : Row .u8 w v S) (hB : Bytes S) (hl : S.length ≤ 100000) :
    Calls Try.prog 7 #[v] w (DecS (srfDec S) w) := by
  have hdec : srfDec S = if S.length = 0 then (0, [], 4) else if (srfLay (wd S 0)).1 = 0 then (0, [], 7) else if S.length ≠ (srfLay (wd S 0)).1 then (0, [], 5) else (wd S 0, bvalsTo S (srfLay (wd S 0)).2 ((srfLay (wd S 0)).2.length / 2), 0) := rfl
  have HR := Lib.hid hr
  obtain ⟨SA, sc, rfl, hsc, hrow⟩ := hr
  by_cases hs0 : S.length = 0
  · rw [hdec, if_pos hs0]
    clear hdec hrow HR
    rw [hs0] at hsc ⊢
    go_enter Try.func7, Try.ntmps7
    go_upto_region 1 with fail
    obtain ⟨W, hW, g0, T0⟩ := twoC_new w (.int .u8 0) (.slice none 0 0) 26
    rw [hW]
    clear hW
    obtain ⟨_, r0, r1, q0, q1⟩ := T0
    go_wp2_with fail
    refine bodyPost_ret (by simp [results, Try.results7, go_sem, r0, r1]; try rfl) rfl ?_
    exact decS_no (twoC_put g0 (Nat.le_refl _) _ _)
  · have hs1 : ¬ (S.length : Int) = 0 := by omega
    obtain ⟨sb, so, rfl, hsb, hcell⟩ := hrow (by omega)
    have h0 := hcell 0 (by omega)
    rw [Nat.add_zero] at h0
    have ha := hB 0
    obtain ⟨a, haa⟩ : ∃ a, wd S 0 = a := ⟨_, rfl⟩
    have HF := srf_field a
    have HNO := fun h => slay_no (c := a) h
    have HAT := fun w v (h : SLayH w v a) => h.at_
    have hev := (srf_layOk a).even
    unfold SLayAt at HAT
    rw [haa] at h0 ha hdec
    rw [if_neg hs0] at hdec
    have HLay : ∀ w v, SLayH w v a → _ := HAT
    generalize hn : (srfLay a).1 = n at *
    generalize hll : (srfLay a).2 = l at *
    have hA0 := Lib.hid haa
    clear haa
    generalize srfDec S = r at *
    have HP := Lib.hid hdec
    clear hdec hcell
    have HC0 := Lib.hid h0
    have hs2 : ¬ (S.length : Int) = 0 := hs1
    clear hs1 hrow
    go_enter Try.func7, Try.ntmps7
    go_upto_region 1 with fail
    obtain ⟨W, hW, g0, T0⟩ := twoC_new w (.int .u8 0) (.slice none 0 0) 26
    rw [hW]
    clear hW
    have T1 := Lib.hid T0
    have hw0 := T0.lt
    have hC1 := Lib.hid ((g0.cell (p := ⟨sb, so, none⟩) hsb).trans h0)
    clear T0 h0
    go_upto_region 3 with fail
    go_cut [4, 5] (fun s t wx => ∃ (p : Nat) (A : Option Addr) (cap : Nat), s = .pointer (some ⟨p, 0, none⟩) ∧ t = .bool (!decide (n = 0)) ∧ W.heap.size ≤ p ∧ Hid (SLayH wx (.agg #[.int .i64 (n : Nat), .slice A (l.length / 2) cap]) a) ∧ Hid (TwoC wx p (.int .i64 (n : Nat)) (.slice A (l.length / 2) cap)) ∧ Hid (Grew W wx))
    case first =>
      refine wp_thenS (sdec_look a sb so S.length sc W hC1 (by omega) ha _ _ _ _ _ _ _ _ _ _ _ _ _ _ _ _ _ _ _ _ _ _ _ _ _ _ _ _ _ _ _ _ _ _ _ _ _ _ _ _ _ _ _ _ _ _ _ _ _ _ _ _ _ _ (fun p x y wx s13 s14 s15 s16 s17 s18 s19 s20 hWp hlay hvar hg => ?_))
      obtain ⟨A, cap, e, _⟩ := HAT _ _ hlay
      simp only [Value.agg.injEq, Array.mk.injEq, List.cons.injEq, and_true] at e
      obtain ⟨rfl, rfl⟩ := e
      go_wp2_with fail
      go_meet
      case rel => exact ⟨p, A, cap, rfl, by simp, hWp, Lib.hid hlay, Lib.hid hvar, Lib.hid hg⟩
    case rest =>
      obtain ⟨wX, hwX⟩ : ∃ x, x = wc := ⟨_, rfl⟩
      subst hwX
      obtain ⟨p, A, cap, rfl, rfl, hWp, hlay, hvar, hg⟩ := hcut
      have G1 := Lib.hid (g0.trans hg.out)
      obtain ⟨_, v0, v1, _, _⟩ := hvar.out
      obtain ⟨_, r0, r1, q0, q1⟩ := T1.out.grew hg.out
      by_cases hn0 : n = 0
      · have HP0 : Hid (r = (0, [], 7)) := Lib.hid (by rw [HP.out, if_pos hn0])
        subst hn0
        go_wp2_with fail
        refine bodyPost_ret (by simp [results, Try.results7, go_sem, r0, r1]; try rfl) rfl ?_
        rw [HP0.out]
        exact decS_no (twoC_put G1.out (Nat.le_refl _) _ _)
      · by_cases hne : S.length ≠ n
        · have n1 : ¬ (S.length : Int) = n := by omega
          have HP0 : Hid (r = (0, [], 5)) := Lib.hid (by rw [HP.out, if_neg hn0, if_pos hne])
          go_wp2_with fail
          refine bodyPost_ret (by simp [results, Try.results7, go_sem, r0, r1]; try rfl) rfl ?_
          rw [HP0.out]
          exact decS_no (twoC_put G1.out (Nat.le_refl _) _ _)
        · have HP' : Hid (r = (a, bvalsTo S l (l.length / 2), 0)) := Lib.hid (by rw [HP.out, if_neg hn0, if_neg hne])
          obtain rfl : n = S.length := by omega
          go_upto_region 9 with (refine wpList_makeI _ rfl _ _ 24 rfl wX.heap.size 2 .i64 8 Try.underlying24 infoI64 (l.length / 2) rfl rfl (by omega) (by unfold maxLen; omega) (Nat.le_refl _) ?_; intro V2 hO0 gV2)
          have HLC := (HAT _ _ hlay.out)
          obtain ⟨A', cap', eA, HLC⟩ := HLC
          simp only [Value.agg.injEq, Array.mk.injEq, List.cons.injEq, and_true, Value.slice.injEq] at eA
          obtain ⟨-, rfl, -, rfl⟩ := eA
          have HLAY := Lib.hid HLC
          have hpos : 2 * (l.length / 2) = l.length := by omega
          generalize hKe : l.length / 2 = K at *
          clear hKe HLC
          obtain ⟨_, v0, v1, _, _⟩ := hvar.out.grew gV2
          have hvl : wX.heap.size < V2.heap.size := (hO0.lt _ rfl).2
          have hw1 : w.heap.size < wX.heap.size := Nat.lt_of_lt_of_le hw0 hg.out.size
          have hpw : p < wX.heap.size := hvar.out.lt
          have GA := Lib.hid (G1.out.trans gV2)
          have HFI := Lib.hid HF
          have HBy := Lib.hid hB
          have TA := Lib.hid (T1.out.grew (hg.out.trans gV2))
          clear HP HNO HAT HLay HF hB r0 r1 q0 q1 hC1
          go_wp2_with fail
          go_loopg [37] K (fun kx s wr => ∃ k : Nat, k + kx = K ∧ s = .int .i64 k ∧ Hid (OwnZ wX.heap.size 2 .i64 wr (.slice (some ⟨wX.heap.size, 0, none⟩) K K) (bvalsPad S l K k)) ∧ Hid (Far (fun x => x = wX.heap.size) V2 wr))
          case atStart => exact ⟨0, by omega, rfl, Lib.hid (by unfold bvalsPad bvalsTo; exact hO0), Lib.hid (Far.refl _ _)⟩
          case round =>
            obtain ⟨k, hk, rfl, hO, hFa⟩ := hrel
            by_cases hlt : k < K
            · obtain ⟨q, m, neg, e1, e2, hm, hq1, hpm⟩ := HFI.out k (by omega)
              obtain ⟨fb, rfl, hfb, c0, c1, c2⟩ := HLAY.out k (by omega)
              rw [e1] at c0
              rw [e2, sneg_abs] at c1
              rw [e2, sneg_lt m neg hm.1] at c2
              have hs := Lib.hid (bvalsPad_set S l K k hlt)
              rw [e1, e2, Int.toNat_natCast] at hs
              have HG := fun w' (g : Grew wr w') => Lib.hid (srp_read (.slice (some ⟨sb, so, none⟩) S.length sc) S q m neg w' (((HR.out.grew GA.out).far hFa.out (fun x hx h => by have := HR.out.lt (by omega) x hx; omega)).grew g) HBy.out hpm hm hl)
              have y0 := (hFa.out.cell (p := ⟨fb, k * 3, none⟩) (Nat.lt_trans hfb (by omega)) (by show ¬ fb = _; omega)).trans ((gV2.cell (p := ⟨fb, k * 3, none⟩) hfb).trans c0)
              have y1 := (hFa.out.cell (p := ⟨fb, k * 3 + 1, none⟩) (Nat.lt_trans hfb (by omega)) (by show ¬ fb = _; omega)).trans ((gV2.cell (p := ⟨fb, k * 3 + 1, none⟩) hfb).trans c1)
              have y2 := (hFa.out.cell (p := ⟨fb, k * 3 + 2, none⟩) (Nat.lt_trans hfb (by omega)) (by show ¬ fb = _; omega)).trans ((gV2.cell (p := ⟨fb, k * 3 + 2, none⟩) hfb).trans c2)
              clear c0 c1 c2
              generalize getB S q (if neg then -(m : Int) else (m : Int)) = y at *
              have hvp := Lib.hid (bvalsPad_length S l K k (by omega))
              generalize bvalsPad S l K k = zs at *
              go_upto_region 12 with fail
              obtain ⟨W3, hW3, g3, T3⟩ := three_new wr (.int .i64 (q : Nat)) (.int .i64 (m : Nat)) (.bool neg) 47
              rw [hW3]
              clear hW3 y0 y1 y2
              obtain ⟨_, x0, x1, x2, _, _, _⟩ := T3
              go_upto_region 13 with (go_at_call 16; refine (HG _ g3).out.mono ?_; rintro e w5 ⟨rfl, g5⟩; have O5 := hO.out.grew (g3.trans g5); obtain ⟨hx, hfr⟩ := O5.cellI hvp.out.symm k (by rw [hvp.out]; exact hlt))
              have O6 := O5.setI k y (by rw [hvp.out]; exact hlt)
              have F6 := ((hFa.out.trans (Far.of_grew (F := fun x => x = wX.heap.size) (g3.trans g5)))).setCell (p := ⟨wX.heap.size, k, none⟩) rfl (.int .i64 y)
              rw [hs.out] at O6
              generalize w5.setCell ⟨wX.heap.size, k, none⟩ (.int .i64 y) = V6 at *
              clear O5 hx hfr x0 x1 x2 HG
              go_wp2_with fail
              go_roundg (K - (k + 1))
              case measure => omega
              case rel => exact ⟨k + 1, by omega, by go_num, Lib.hid O6, Lib.hid F6⟩
            · obtain rfl : k = K := by omega
              have hva := Lib.hid (bvalsPad_all S l k)
              rw [hva.out] at hO
              obtain ⟨_, r0, r1, q0, q1⟩ := TA.out.far hFa.out (by show ¬ w.heap.size = _; omega)
              have hz0 := (hFa.out.cell (p := ⟨sb, so, none⟩) (Nat.lt_of_lt_of_le hsb GA.out.size) (by show ¬ sb = _; omega)).trans ((GA.out.cell (p := ⟨sb, so, none⟩) hsb).trans HC0.out)
              have O6 := Lib.hid (hO.out.far (((Far.refl (fun x => x = w.heap.size) wr).setCell (p := ⟨w.heap.size, 0, none⟩) rfl (.int .u8 (a : Nat))).setCell (p := ⟨w.heap.size, 1, none⟩) rfl (.slice (some ⟨wX.heap.size, 0, none⟩) k k)) (fun x hx e => by have := hO.out.lt x hx; have : x = w.heap.size := e; omega))
              have OL := Lib.hid hO.out.lt
              have GR := Lib.hid (hFa.out.grew GA.out (fun x h => by have : x = wX.heap.size := h; omega))
              clear hO hFa HFI HLAY
              go_wp2_with fail
              refine bodyPost_ret (by simp [results, Try.results7, go_sem, r0, r1]; try rfl) rfl ?_
              rw [HP'.out]
              exact ⟨_, rfl, O6.out.row, fun _ x hx => by have := OL.out x hx; omega, twoC_put GR.out (Nat.le_refl _) _ _⟩
-- DEC]
end Go.Proofs.Ytjjpfbdcfifofaa
