/-
  The document's SiRF messages: a payload written.
-/
import Derived.Test.YtjjpfbdcfifofaaSrrC
import Derived.OwnWalk
namespace Go.Proofs.Ytjjpfbdcfifofaa
open Go.RowKit
set_option linter.unusedVariables false

theorem wpList_makeS {P : Program} (w : World) {ops : Array Oper} {rest : List Oper} {o : Oper} {a : Act} {Q : Exit → Act → World → Prop} (hgd : o.guard = none) (l c : Operand) (t : TypeId) (hop : o.op = .makeSlice t l c)
    (base : Nat) (E : TypeId) (k : IntKind) (bytes : Nat) (ht : P.underlying t = some (.slice E)) (hi : (P.info? E).map (fun i => (i.zero, i.size, i.bytes)) = some (some (.int k 0), 1, bytes))
    (n : Nat) (hl : a.eval l = .int .i64 (n : Nat)) (hc : a.eval c = .int .i64 (n : Nat)) (hb : bytes * n ≤ 281474976710656) (hm : n ≤ maxLen) (hbase : base ≤ w.heap.size)
    (h : ∀ w', Own base E k w' (.slice (some ⟨w.heap.size, 0, none⟩) n n) (List.replicate n 0) → Grew w w' → wpList P ops Q rest (a.put o.dst (.slice (some ⟨w.heap.size, 0, none⟩) n n)) w') : wpList P ops Q (o :: rest) a w := by
  obtain ⟨i, hi0, hz0, hz1, hz2⟩ := info_parts hi
  refine wpList_make_full w hgd l c t hop base E i (.int k 0) 1 ht hi0 hz0 hz1 .i64 .i64 _ _ n hl hc rfl rfl (by rw [hz2]; exact hb) hm hbase fun w' h1 h2 => h w' ?_ ?_
  · have e : (madeCells (Value.int k 0).cells (n * 1)).toList = List.replicate n (.int k 0) := by
      rw [show (Value.int k 0).cells = #[.int k 0] from rfl, Nat.mul_one]
      unfold madeCells
      refine List.ext_getElem (by simp) fun i h1 h2 => ?_
      simp [Nat.mod_one]
    rw [e] at h1
    unfold Own
    rw [List.length_replicate, show cellsOf k (List.replicate n 0) = List.replicate n (.int k 0) by simp [cellsOf]]
    exact h1
  · exact Below.grown (Grew.refl w) h2 (Nat.le_refl _) (fun b hb => by cases hb)
theorem Own.cellS {w : World} {B : Nat} {E : TypeId} {k : IntKind} {g c n : Nat} {ns : List Nat} (h : Own B E k w (.slice (some ⟨g, 0, none⟩) n c) ns) (hn : n = ns.length) (j : Nat) (hj : j < ns.length) : w.cell? ⟨g, j, none⟩ = some (.int k (wd ns j : Nat)) ∧ w.frozen? ⟨g, j, none⟩ = false := by
  subst hn
  unfold Own at h
  refine ⟨?_, World.ownsRow.frozenAt h j⟩
  rw [World.ownsRow.cellAt h j (by omega)]
  simp [cellsOf, wd, hj]
theorem fits_noS {l zs : List Int} {k K : Nat} (h : fitsTo l zs (k + 1) = false) (hk : k < K) : fitsTo l zs K = false := by
  cases q : fitsTo l zs K with
  | false => rfl
  | true => rw [fitsTo_all q (k + 1) (by omega)] at h; cases h
theorem tmod_is (Y : Int) : (0 ≤ Y.tmod 256 ∧ Y.tmod 256 = Y % 256) ∨ (Y.tmod 256 < 0 ∧ Y.tmod 256 + 256 = Y % 256) := by
  rw [Int.tmod_eq_emod]
  split <;> simp <;> omega
theorem tdiv_is (Y : Int) : (Y - Y % 256).tdiv 256 = Y / 256 := by
  have : Y - Y % 256 = 256 * (Y / 256) := by omega
  rw [this, Int.mul_tdiv_cancel_left _ (by decide)]
theorem ediv_step (z : Int) (j : Nat) : z / ((256 ^ j : Nat) : Int) / 256 = z / ((256 ^ (j + 1) : Nat) : Int) := by
  rw [Int.ediv_ediv_of_nonneg (Int.natCast_nonneg _), Nat.pow_succ, Int.natCast_mul]
  rfl
theorem ediv_in (z : Int) (j : Nat) (h : -4294967296 ≤ z ∧ z ≤ 4294967296) : -4294967296 ≤ z / ((256 ^ j : Nat) : Int) ∧ z / ((256 ^ j : Nat) : Int) ≤ 4294967296 := by
  have hp : 0 < 256 ^ j := Nat.pow_pos (by decide)
  generalize 256 ^ j = q at *
  have h1 := Int.mul_ediv_add_emod z (q : Int)
  have h2 := Int.emod_nonneg z (show (q : Int) ≠ 0 by omega)
  have h3 := Int.emod_lt_of_pos z (show (0 : Int) < (q : Int) by omega)
  constructor
  · refine Int.not_lt.1 fun hlt => ?_
    have : (q : Int) * (z / (q : Int)) ≤ (q : Int) * (-4294967297) := Int.mul_le_mul_of_nonneg_left (by omega) (by omega)
    have h5 : (q : Int) * (-4294967297) ≤ -4294967296 - q := by
      have : (q : Int) * 4294967297 ≥ 4294967296 + q := by omega
      omega
    omega
  · refine Int.not_lt.1 fun hlt => ?_
    have : (q : Int) * 4294967297 ≤ (q : Int) * (z / (q : Int)) := Int.mul_le_mul_of_nonneg_left (by omega) (by omega)
    omega
theorem fits_in {z : Int} {m : Nat} {Z : Int} (hZ : Z = (m : Int) ∨ Z = -(m : Int)) (hm : 0 < m ∧ m ≤ 4) (h : fitsZ z Z = true) : -4294967296 ≤ z ∧ z ≤ 4294967296 := by
  have hp := pow_le4 m hm.2
  have e : Z.natAbs = m := by omega
  unfold fitsZ at h
  rw [e] at h
  generalize 256 ^ m = q at *
  split at h <;> simp only [decide_eq_true_eq] at h <;> omega
-- [PAY
set_option maxRecDepth 100000 in
set_option maxHeartbeats 8000000 in
theorem ref13_Payload (a : Nat) (v : Value) (zs : List Int) (w : World) (ha : a < 256) (hr : RowZ .i64 w v zs) (hz : ∀ i, -9223372036854775808 ≤ zi zs i ∧ zi zs i ≤ 9223372036854775807) (hl : zs.length ≤ 100000) :
    Calls Try.prog 11 #[.agg #[.int .u8 (a : Nat), v]] w (PayR (srfPay a zs) w) := by
  have hok := srf_layOk a
  have HF := srf_field a
  have HL := fun w => ref13_Layout a w ha
  have hpay : srfPay a zs = if (srfLay a).1 = 0 then ([], 7) else if 2 * zs.length ≠ (srfLay a).2.length then ([], 2) else if fitsTo (srfLay a).2 zs zs.length = true then (bpayTo a (srfLay a).2 zs (srfLay a).1 zs.length, 0) else ([], 2) := rfl
  generalize srfPay a zs = r at *
  generalize (srfLay a).1 = n at *
  generalize (srfLay a).2 = l at *
  replace HL := fun w => Lib.hid (HL w)
  have hev := hok.even
  have HR := Lib.hid hr
  obtain ⟨ZA, zc, rfl, hzc⟩ := hr.form
  clear hr
  go_enter Try.func11, Try.ntmps11
  go_upto_region 1 with fail
  obtain ⟨W, hW, g0, T0⟩ := twoC_new w (.int .u8 (a : Nat)) (.slice ZA zs.length zc) 26
  rw [hW]
  clear hW
  have T1 := Lib.hid T0
  obtain ⟨_, s0, s1, _, _⟩ := T0
  go_upto_region 2 with (go_at_call 14; refine (HL _).out.mono ?_; rintro e w1 ⟨lv, rfl, hlv, g1⟩)
  obtain ⟨LA, lc, rfl, hlc⟩ := hlv.form
  obtain ⟨_, s0, s1, _, _⟩ := T1.out.grew g1
  have G1 := Lib.hid (g0.trans g1)
  by_cases hn0 : n = 0
  · have HP0 : Hid (r = ([], 7)) := Lib.hid (by rw [hpay, if_pos hn0])
    subst hn0
    clear hpay
    go_wp2_with fail
    go_ret2
    rw [HP0.out]
    exact payR_no G1.out
  · have n0 : ¬ (n : Int) = 0 := by omega
    by_cases hne : 2 * zs.length ≠ l.length
    · have HP0 : Hid (r = ([], 2)) := Lib.hid (by rw [hpay, if_neg hn0, if_pos hne])
      have n1 : ¬ (zs.length : Int) * 2 = (l.length : Int) := by omega
      have n2 : IntKind.i64.wrap ((zs.length : Int) * 2) = (zs.length : Int) * 2 := IntWalk.i64_in _ (by omega)
      clear hpay
      go_wp2_with fail
      go_ret2
      rw [HP0.out]
      exact payR_no G1.out
    · have HP' : Hid (r = if fitsTo l zs zs.length = true then (bpayTo a l zs n zs.length, 0) else ([], 2)) := Lib.hid (by rw [hpay, if_neg hn0, if_neg hne])
      have H2K : Hid (2 * zs.length = l.length) := by show _ = _; omega
      have n1 : (zs.length : Int) * 2 = (l.length : Int) := by omega
      have n2 : IntKind.i64.wrap ((zs.length : Int) * 2) = (l.length : Int) := by rw [n1]; exact IntWalk.i64_in _ (by omega)
      clear hpay hne
      go_upto_region 7 with (refine wpList_makeS _ rfl _ _ 22 rfl w1.heap.size 5 .u8 1 Try.underlying22 infoU8 n rfl rfl (by omega) (by unfold maxLen; omega) (Nat.le_refl _) ?_; intro V1 hO0 gV1)
      have hvl1 : w1.heap.size < V1.heap.size := (hO0.lt _ rfl).2
      have hw1 : w.heap.size < w1.heap.size := Nat.lt_of_lt_of_le T1.out.lt g1.size
      obtain ⟨hx, hfr⟩ := hO0.cellS (by simp) 0 (by simp; omega)
      obtain ⟨_, s0, s1, _, _⟩ := T1.out.grew (g1.trans gV1)
      have b0 : (0 : Int) < n := by omega
      go_upto_region 8 with fail
      have O2 := hO0.set 0 a (by simp; omega)
      have F2 := (Far.refl (fun x => x = w1.heap.size) V1).setCell (p := ⟨w1.heap.size, 0, none⟩) rfl (.int .u8 (a : Nat))
      generalize V1.setCell ⟨w1.heap.size, 0, none⟩ (.int .u8 (a : Nat)) = V2 at *
      have hO0 : Own w1.heap.size 5 .u8 V2 (.slice (some ⟨w1.heap.size, 0, none⟩) n n) (bpayTo a l zs n 0) := O2
      have hvl : w1.heap.size < V2.heap.size := Nat.lt_of_lt_of_le hvl1 F2.size
      have GA := Lib.hid (F2.grew (G1.out.trans gV1) (fun x h => by have : x = w1.heap.size := h; omega))
      have HLV := Lib.hid hlv
      have HFI := Lib.hid HF
      have HZ := Lib.hid hz
      have HFT := fun v m neg w hv hm => Lib.hid (ref12_Fits v m neg w hv hm)
      have HGV := Lib.hid ((Far.of_grew (F := fun x => x = w1.heap.size) gV1).trans F2)
      have hev1 := hev.2.1
      have hev2 := hev.2.2
      have TV := Lib.hid ((T1.out.grew (g1.trans gV1)).far F2 (by show ¬ w.heap.size = _; omega))
      clear HF hz hlv s0 s1 HL hev n1 n2 hx hfr O2 F2 gV1
      go_wp2_with fail
      go_loopg [7] (zs.length) (fun kx s wr => ∃ k : Nat, k + kx = zs.length ∧ s = .int .i64 k ∧ Hid (Own w1.heap.size 5 .u8 wr (.slice (some ⟨w1.heap.size, 0, none⟩) n n) (bpayTo a l zs n k)) ∧ Hid (fitsTo l zs k = true) ∧ Hid (Far (fun x => x = w1.heap.size) V2 wr))
      case atStart => exact ⟨0, by omega, rfl, Lib.hid hO0, Lib.hid rfl, Lib.hid (Far.refl _ _)⟩
      case round =>
        obtain ⟨i, hi, rfl, hO, hft, hFa⟩ := hrel
        obtain ⟨_, s0, s1, _, _⟩ := TV.out.far hFa.out (by show ¬ w.heap.size = _; omega)
        by_cases hlt : i < zs.length
        · have h2K := H2K.out
          obtain ⟨p, m, neg, e1, e2, hm, hp1, hpm⟩ := HFI.out i (by omega)
          obtain ⟨lb, lo, rfl, hlb, hx1⟩ := HLV.out.at_ (i := 2 * i) (by omega)
          obtain ⟨lb', lo', e3, _, hx2⟩ := HLV.out.at_ (i := 2 * i + 1) (by omega)
          cases e3
          rw [e1] at hx1
          rw [e2] at hx2
          obtain ⟨zb, zo, rfl, hzb, hzx⟩ := HR.out.at_ (i := i) hlt
          have hzk := HZ.out i
          have hnx : Hid (bpayTo a l zs n (i + 1) = putBE (bpayTo a l zs n i) p m (zi zs i) m) := Lib.hid (by rw [bpayTo, e1, e2]; congr 1 <;> (cases neg <;> simp))
          have hfn := Lib.hid (show fitsTo l zs (i + 1) = (fitsTo l zs i && fitsZ (zi zs i) (zi l (2 * i + 1))) from rfl)
          rw [hft.out, Bool.true_and, e2] at hfn
          have hpl := bpayTo_length a l zs n i
          have HFW := fun w' => HFT (zi zs i) m neg w' hzk hm
          have y1 := (hFa.out.cell (p := ⟨lb, lo + 2 * i, none⟩) (Nat.lt_trans hlb hvl) (by show ¬ lb = _; omega)).trans ((HGV.out.cell (p := ⟨lb, lo + 2 * i, none⟩) hlb (by show ¬ lb = _; omega)).trans hx1)
          have y2 := (hFa.out.cell (p := ⟨lb, lo + (2 * i + 1), none⟩) (Nat.lt_trans hlb hvl) (by show ¬ lb = _; omega)).trans ((HGV.out.cell (p := ⟨lb, lo + (2 * i + 1), none⟩) hlb (by show ¬ lb = _; omega)).trans hx2)
          have hzr := (hFa.out.cell (p := ⟨zb, zo + i, none⟩) (Nat.lt_of_lt_of_le hzb GA.out.size) (by show ¬ zb = _; omega)).trans ((GA.out.cell (p := ⟨zb, zo + i, none⟩) hzb).trans hzx)
          have hzbn : ¬ zb = w1.heap.size := by omega
          have hlbn : ¬ lb = w1.heap.size := by omega
          clear hx1 hx2 hzx e1 e2
          generalize bpayTo a l zs n i = S at *
          generalize zi zs i = z at *
          have i1 : 2 * (i : Int) < l.length := by omega
          have i2 : 2 * (i : Int) + 1 < l.length := by omega
          have i3 : 0 ≤ 2 * (i : Int) := by omega
          have i4 : 0 ≤ 2 * (i : Int) + 1 := by omega
          have i5 : IntKind.i64.wrap (2 * (i : Int) + 1) = 2 * (i : Int) + 1 := IntWalk.i64_in _ (by omega)
          have i6 : (2 * (i : Int)).toNat = 2 * i := by omega
          have i7 : (2 * (i : Int) + 1).toNat = 2 * i + 1 := by omega
          have i8 : IntKind.i64.wrap (2 * (i : Int)) = 2 * (i : Int) := IntWalk.i64_in _ (by omega)
          clear h2K
          obtain ⟨Z, hZ⟩ : ∃ Z, (if neg then -(m : Int) else (m : Int)) = Z := ⟨_, rfl⟩
          rw [hZ] at y2 HFW hfn
          have hZp : Z = (m : Int) ∨ Z = -(m : Int) := by rw [← hZ]; cases neg <;> simp
          cases hfit : fitsZ z Z with
          | false =>
            rw [hfit] at hfn HFW
            have HPE : Hid (r = ([], 2)) := Lib.hid (by rw [HP'.out, if_neg (by rw [fits_noS hfn.out hlt]; decide)])
            have GR := Lib.hid (hFa.out.grew GA.out (fun x h => by have : x = w1.heap.size := h; omega))
            clear HP' hnx
            go_wp2_with (go_at_call 21; refine (HFW _).out.mono ?_; rintro e w3 ⟨rfl, g3⟩)
            go_ret2
            rw [HPE.out]
            exact payR_no (GR.out.trans g3)
          | true =>
            have hzin := fits_in hZp hm hfit
            rw [hfit] at hfn HFW
            go_upto_region 14 with (go_at_call 21; refine (HFW _).out.mono ?_; rintro e w3 ⟨rfl, g3⟩)
            have G3 := Lib.hid g3
            have hzb3 : zb < wr.heap.size := World.block_lt_of_cell? wr ⟨zb, zo + i, none⟩ hzr
            have hlb3 : lb < wr.heap.size := World.block_lt_of_cell? wr ⟨lb, lo + 2 * i, none⟩ y1
            have hz3 := (g3.cell (p := ⟨zb, zo + i, none⟩) hzb3).trans hzr
            have y3 := (g3.cell (p := ⟨lb, lo + 2 * i, none⟩) hlb3).trans y1
            have hws : w.heap.size < wr.heap.size := World.block_lt_of_cell? wr ⟨w.heap.size, 1, none⟩ s1
            have s3 := (g3.cell (p := ⟨w.heap.size, 1, none⟩) hws).trans s1
            have hlb4 : lb < w3.heap.size := Nat.lt_of_lt_of_le hlb3 g3.size
            clear y1 y2 hzr s0 s1 HFW hZ g3 hfit
            have c1 : ¬ (m : Int) < 0 := by omega
            have c2 : -(m : Int) < 0 := by omega
            have c3 : IntKind.i64.wrap (- -(m : Int)) = (m : Int) := by rw [Int.neg_neg]; exact IntWalk.i64_in _ (by omega)
            have c4 : IntKind.i64.wrap (m : Int) = (m : Int) := IntWalk.i64_in _ (by omega)
            have c5 : - -(m : Int) = (m : Int) := Int.neg_neg _
            have c6 : IntKind.i64.wrap ((m : Int) - 1) = (m : Int) - 1 := IntWalk.i64_in _ (by omega)
            rcases hZp with rfl | rfl
            all_goals
                go_upto_region 17 with fail
                clear c1 c2 c3 c4 c5 s3
                have OW3 := Lib.hid (hO.out.grew G3.out)
                go_wp2_with fail
                go_loopg [9, 10] m (fun kx s t wi => ∃ j : Nat, j + kx = m ∧ s = .int .i64 (z / ((256 ^ j : Nat) : Int)) ∧ t = .int .i64 ((m : Int) - 1 - (j : Int)) ∧ Hid (Own w1.heap.size 5 .u8 wi (.slice (some ⟨w1.heap.size, 0, none⟩) n n) (putBE S p m z j)) ∧ Hid (Far (fun x => x = w1.heap.size) w3 wi))
                case atStart => exact ⟨0, by omega, by simp, by simp, OW3, Lib.hid (Far.refl _ _)⟩
                case round =>
                  obtain ⟨j, hj, rfl, rfl, hOj, hFj⟩ := hrel
                  by_cases hlj : j < m
                  · have y4 := (hFj.out.cell (p := ⟨lb, lo + 2 * i, none⟩) hlb4 hlbn).trans y3
                    have hplj := putBE_length S p m z j
                    obtain ⟨hx, hfr⟩ := hOj.out.cellS (by omega) (p + (m - 1 - j)) (by omega)
                    have hin := ediv_in z j hzin
                    have hst := Lib.hid (ediv_step z j)
                    have hput : Hid (putBE S p m z (j + 1) = (putBE S p m z j).set (p + (m - 1 - j)) (byteZ z j)) := Lib.hid rfl
                    have hbz : z / ((256 ^ j : Nat) : Int) % 256 = (byteZ z j : Nat) := by unfold byteZ; omega
                    have bb := byteZ_lt z j
                    generalize z / ((256 ^ j : Nat) : Int) = Y at *
                    generalize byteZ z j = B at *
                    have hdv : (Y - (B : Int)).tdiv 256 = Y / 256 := by rw [← hbz]; exact tdiv_is Y
                    have hin2 : -9223372036854775808 ≤ Y / 256 ∧ Y / 256 ≤ 9223372036854775807 := by omega
                    generalize hY2 : Y / 256 = Y2 at *
                    have t3 : wrap64 Y2 = Y2 := IntWalk.wrap64_in _ hin2
                    have t4 : IntKind.i64.wrap (Y - (B : Int)) = Y - (B : Int) := IntWalk.i64_in _ (by omega)
                    have e0 : IntKind.i64.wrap ((p : Int) + ((m : Int) - 1 - (j : Int))) = ((p + (m - 1 - j) : Nat) : Int) := by rw [IntWalk.i64_in _ (by omega)]; omega
                    have e0' : (p : Int) + ((m : Int) - 1 - (j : Int)) = ((p + (m - 1 - j) : Nat) : Int) := by omega
                    have b2 : ((p + (m - 1 - j) : Nat) : Int) < n := by omega
                    have e3 : IntKind.u8.wrap (B : Int) = (B : Int) := IntWalk.u8_in _ (by omega)
                    have e4 : (B : Int) % 256 = (B : Int) := by omega
                    have d0 : (0 : Int) ≤ (m : Int) - 1 - (j : Int) := by omega
                    have d4 : IntKind.i64.wrap ((m : Int) - 1 - (j : Int) - 1) = (m : Int) - 1 - ((j + 1 : Nat) : Int) := by rw [IntWalk.i64_in _ (by omega)]; omega
                    have d5 : (m : Int) - 1 - (j : Int) - 1 = (m : Int) - 1 - ((j + 1 : Nat) : Int) := by omega
                    have hqn : p + (m - 1 - j) < (putBE S p m z j).length := by omega
                    generalize (m : Int) - 1 - (j : Int) = J at *
                    generalize p + (m - 1 - j) = q at *
                    clear hY2
                    rcases tmod_is Y with ⟨tn, te⟩ | ⟨tn, te⟩
                    · have t1 : Y.tmod 256 = (B : Nat) := te.trans hbz
                      have t2 : ¬ (B : Int) < 0 := by omega
                      clear hbz tn te
                      go_wp2_with fail
                      have O2 := hOj.out.set q B hqn
                      have F2 := hFj.out.setCell (p := ⟨w1.heap.size, q, none⟩) rfl (.int .u8 (B : Nat))
                      rw [← hput.out] at O2
                      generalize wr.setCell ⟨w1.heap.size, q, none⟩ (.int .u8 (B : Nat)) = V4 at *
                      have O3 := Lib.hid O2
                      have F3 := Lib.hid F2
                      clear O2 F2 hx hfr
                      go_roundg (m - (j + 1))
                      case measure => omega
                      case rel => exact ⟨j + 1, by omega, by rw [hst.out], by rw [Int.natCast_add]; rfl, O3, F3⟩
                    · have t1 : IntKind.i64.wrap (Y.tmod 256 + 256) = (B : Nat) := by rw [te, hbz]; exact IntWalk.i64_in _ (by omega)
                      have t2 : Y.tmod 256 + 256 = (B : Nat) := te.trans hbz
                      clear hbz te
                      go_wp2_with fail
                      have O2 := hOj.out.set q B hqn
                      have F2 := hFj.out.setCell (p := ⟨w1.heap.size, q, none⟩) rfl (.int .u8 (B : Nat))
                      rw [← hput.out] at O2
                      generalize wr.setCell ⟨w1.heap.size, q, none⟩ (.int .u8 (B : Nat)) = V4 at *
                      have O3 := Lib.hid O2
                      have F3 := Lib.hid F2
                      clear O2 F2 hx hfr
                      go_roundg (m - (j + 1))
                      case measure => omega
                      case rel => exact ⟨j + 1, by omega, by rw [hst.out], by rw [Int.natCast_add]; rfl, O3, F3⟩
                  · obtain rfl : j = m := by omega
                    have d9 : ¬ (0 : Int) ≤ (j : Int) - 1 - (j : Int) := by omega
                    rw [← hnx.out] at hOj
                    have F9 := Lib.hid ((hFa.out.trans (Far.of_grew G3.out)).trans hFj.out)
                    go_wp2_with fail
                    go_roundg (zs.length - (i + 1))
                    case measure => omega
                    case rel => exact ⟨i + 1, by omega, by go_num, hOj, hfn, F9⟩
        · obtain rfl : i = zs.length := by omega
          have HPO : Hid (r = (bpayTo a l zs n zs.length, 0)) := Lib.hid (by rw [HP'.out, if_pos hft.out])
          have OL := Lib.hid hO.out.lt
          have OR := Lib.hid hO.out.row
          have GR := Lib.hid (hFa.out.grew GA.out (fun x h => by have : x = w1.heap.size := h; omega))
          clear hO hFa HP' hft HFI HLV
          go_wp2_with fail
          go_ret2
          rw [HPO.out]
          exact ⟨_, rfl, OR.out, fun _ x hx => by have := OL.out x hx; omega, GR.out⟩
-- PAY]
end Go.Proofs.Ytjjpfbdcfifofaa
