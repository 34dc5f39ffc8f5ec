/-
  The document's UBX messages: a payload written.
  The laws of messages: the page's examples; what a message may be.
  The law of what a message may be: MessageMay's walk.
-/
import Derived.Test.YtnhigfkhdmkoeaaGreatDoorP03
import Derived.Test.YtnhigfkhdmkoeaaGreatDoorP17
import Derived.Lib.SlBytesConst

namespace Go.Proofs.YtnhigfkhdmkoeaaGreatDoor
open Go.RowKit
set_option linter.unusedVariables false

theorem wpList_makeR {P : Program} (w : World) {ops : Array Oper} {rest : List Oper} {o : Oper} {a : Act} {Q : Exit → Act → World → Prop} (hgd : o.guard = none) (l c : Operand) (t : TypeId) (hop : o.op = .makeSlice t l c)
    (base : Nat) (E : TypeId) (k : IntKind) (bytes : Nat) (ht : P.underlying t = some (.slice E)) (hi : (P.info? E).map (fun i => (i.zero, i.size, i.bytes)) = some (some (.int k 0), 1, bytes))
    (n : Nat) (hl : a.eval l = .int .i64 (n : Nat)) (hc : a.eval c = .int .i64 (n : Nat)) (hb : bytes * n ≤ 281474976710656) (hm : n ≤ maxLen) (hbase : base ≤ w.heap.size)
    (h : ∀ w', Own base E k w' (.slice (some ⟨w.heap.size, 0, none⟩) n n) (List.replicate n 0) → Grew w w' → wpList P ops Q rest (a.put o.dst (.slice (some ⟨w.heap.size, 0, none⟩) n n)) w') : wpList P ops Q (o :: rest) a w := by
  obtain ⟨i, hi0, hz0, hz1, hz2⟩ := info_parts hi
  refine wpList_make_full w hgd l c t hop base E i (.int k 0) 1 ht hi0 hz0 hz1 .i64 .i64 _ _ n hl hc rfl rfl (by rw [hz2]; exact hb) hm hbase fun w' h1 h2 => h w' ?_ ?_
  · have e : (madeCells (Value.int k 0).cells (n * 1)).toList = List.replicate n (.int k 0) := by
      rw [show (Value.int k 0).cells = #[.int k 0] from rfl, Nat.mul_one]
      unfold madeCells
      refine List.ext_getElem (by simp) fun i h1 h2 => ?_
      simp [Nat.mod_one]
    rw [e] at h1
    unfold Own
    rw [List.length_replicate, show cellsOf k (List.replicate n 0) = List.replicate n (.int k 0) by simp [cellsOf]]
    exact h1
  · exact Below.grown (Grew.refl w) h2 (Nat.le_refl _) (fun b hb => by cases hb)
theorem Own.cellR {w : World} {B : Nat} {E : TypeId} {k : IntKind} {g c n : Nat} {ns : List Nat} (h : Own B E k w (.slice (some ⟨g, 0, none⟩) n c) ns) (hn : n = ns.length) (j : Nat) (hj : j < ns.length) : w.cell? ⟨g, j, none⟩ = some (.int k (wd ns j : Nat)) ∧ w.frozen? ⟨g, j, none⟩ = false := by
  subst hn
  unfold Own at h
  refine ⟨?_, World.ownsRow.frozenAt h j⟩
  rw [World.ownsRow.cellAt h j (by omega)]
  simp [cellsOf, wd, hj]
theorem fits_noR {l zs : List Int} {k K : Nat} (h : fitsTo l zs (k + 1) = false) (hk : k < K) : fitsTo l zs K = false := by
  cases q : fitsTo l zs K with
  | false => rfl
  | true => rw [fitsTo_all q (k + 1) (by omega)] at h; cases h
-- [PAY
set_option maxRecDepth 100000 in
set_option maxHeartbeats 8000000 in
theorem ref12_Payload (a b : Nat) (v : Value) (zs : List Int) (w : World) (ha : a < 256) (hb : b < 256) (hr : RowZ .i64 w v zs) (hz : ∀ i, -9223372036854775808 ≤ zi zs i ∧ zi zs i ≤ 9223372036854775807) (hl : zs.length ≤ 100000) :
    Calls Tryz.prog 8 #[.agg #[.int .u8 (a : Nat), .int .u8 (b : Nat), v]] w (PayR (ubxPay (a * 256 + b) zs) w) := by
  have hok := ubx_layOk (a * 256 + b)
  have HF := lay_field (a * 256 + b)
  have HL := fun w => ref12_Layout a b w ha hb
  have hpay : ubxPay (a * 256 + b) zs = if (ubxLay (a * 256 + b)).1 = 0 then ([], 7) else if 2 * zs.length ≠ (ubxLay (a * 256 + b)).2.length then ([], 2) else if fitsTo (ubxLay (a * 256 + b)).2 zs zs.length = true then (payTo (ubxLay (a * 256 + b)).2 zs (ubxLay (a * 256 + b)).1 zs.length, 0) else ([], 2) := rfl
  generalize ubxPay (a * 256 + b) zs = r at *
  generalize (ubxLay (a * 256 + b)).1 = n at *
  generalize (ubxLay (a * 256 + b)).2 = l at *
  replace HL := fun w => Lib.hid (HL w)
  have hev := hok.even
  have HR := Lib.hid hr
  obtain ⟨ZA, zc, rfl, hzc⟩ := hr.form
  clear hr
  go_enter Tryz.func8, Tryz.ntmps8
  go_upto_region 1 with fail
  obtain ⟨W, hW, g0, T0⟩ := three_new w (.int .u8 (a : Nat)) (.int .u8 (b : Nat)) (.slice ZA zs.length zc) 36
  rw [hW]
  clear hW
  have T1 := Lib.hid T0
  obtain ⟨_, s0, s1, s2, _, _, _⟩ := T0
  go_upto_region 2 with (go_at_call 15; refine (HL _).out.mono ?_; rintro e w1 ⟨lv, rfl, hlv, g1⟩)
  obtain ⟨LA, lc, rfl, hlc⟩ := hlv.form
  obtain ⟨_, s0, s1, s2, _, _, _⟩ := T1.out.grew g1
  have G1 := Lib.hid (g0.trans g1)
  by_cases hn0 : n = 0
  · have HP0 : Hid (r = ([], 7)) := Lib.hid (by rw [hpay, if_pos hn0])
    subst hn0
    clear hpay
    go_wp2_with fail
    go_ret2
    rw [HP0.out]
    exact payR_no G1.out
  · have n0 : ¬ (n : Int) = 0 := by omega
    by_cases hne : 2 * zs.length ≠ l.length
    · have HP0 : Hid (r = ([], 2)) := Lib.hid (by rw [hpay, if_neg hn0, if_pos hne])
      have n1 : ¬ (zs.length : Int) * 2 = (l.length : Int) := by omega
      have n2 : IntKind.i64.wrap ((zs.length : Int) * 2) = (zs.length : Int) * 2 := IntWalk.i64_in _ (by omega)
      clear hpay
      go_wp2_with fail
      go_ret2
      rw [HP0.out]
      exact payR_no G1.out
    · have HP' : Hid (r = if fitsTo l zs zs.length = true then (payTo l zs n zs.length, 0) else ([], 2)) := Lib.hid (by rw [hpay, if_neg hn0, if_neg hne])
      have H2K : Hid (2 * zs.length = l.length) := by show _ = _; omega
      have n1 : (zs.length : Int) * 2 = (l.length : Int) := by omega
      have n2 : IntKind.i64.wrap ((zs.length : Int) * 2) = (l.length : Int) := by rw [n1]; exact IntWalk.i64_in _ (by omega)
      clear hpay hne
      go_upto_region 7 with (refine wpList_makeR _ rfl _ _ 22 rfl w1.heap.size 5 .u8 1 Tryz.underlying22 infoU8 n rfl rfl (by omega) (by unfold maxLen; omega) (Nat.le_refl _) ?_; intro V2 hO0 gV2)
      have hvl : w1.heap.size < V2.heap.size := (hO0.lt _ rfl).2
      have hw1 : w.heap.size < w1.heap.size := Nat.lt_of_lt_of_le T1.out.lt g1.size
      have GA := Lib.hid (G1.out.trans gV2)
      have HLV := Lib.hid hlv
      have HFI := Lib.hid HF
      have HZ := Lib.hid hz
      have HFT := fun v m neg w hv hm => Lib.hid (ref12_Fits v m neg w hv hm)
      have HPW := fun w m h => Lib.hid (ref12_power m w h)
      have HGV := Lib.hid gV2
      have hev1 := hev.2.1
      have hev2 := hev.2.2
      have TV := Lib.hid (T1.out.grew (g1.trans gV2))
      clear HF hz hlv s0 s1 s2 HL hev n1 n2
      go_wp2_with fail
      go_loopg [7] (zs.length) (fun kx s wr => ∃ k : Nat, k + kx = zs.length ∧ s = .int .i64 k ∧ Hid (Own w1.heap.size 5 .u8 wr (.slice (some ⟨w1.heap.size, 0, none⟩) n n) (payTo l zs n k)) ∧ Hid (fitsTo l zs k = true) ∧ Hid (Far (fun x => x = w1.heap.size) V2 wr))
      case atStart => exact ⟨0, by omega, rfl, Lib.hid (by unfold payTo; exact hO0), Lib.hid rfl, Lib.hid (Far.refl _ _)⟩
      case round =>
        obtain ⟨i, hi, rfl, hO, hft, hFa⟩ := hrel
        obtain ⟨_, s0, s1, s2, _, _, _⟩ := TV.out.far hFa.out (by show ¬ w.heap.size = _; omega)
        by_cases hlt : i < zs.length
        · have h2K := H2K.out
          obtain ⟨p, m, neg, e1, e2, hm, hpm⟩ := HFI.out i (by omega)
          obtain ⟨lb, lo, rfl, hlb, hx1⟩ := HLV.out.at_ (i := 2 * i) (by omega)
          obtain ⟨lb', lo', e3, _, hx2⟩ := HLV.out.at_ (i := 2 * i + 1) (by omega)
          cases e3
          rw [e1] at hx1
          rw [e2] at hx2
          obtain ⟨zb, zo, rfl, hzb, hzx⟩ := HR.out.at_ (i := i) hlt
          have hzk := HZ.out i
          have hnx : Hid (payTo l zs n (i + 1) = putLE (payTo l zs n i) p (zi zs i) m) := Lib.hid (by rw [payTo, e1, e2]; congr 1; cases neg <;> simp)
          have hfn := Lib.hid (show fitsTo l zs (i + 1) = (fitsTo l zs i && fitsZ (zi zs i) (zi l (2 * i + 1))) from rfl)
          rw [hft.out, Bool.true_and, e2] at hfn
          have hpl := payTo_length l zs n i
          have HFW := fun w' => HFT (zi zs i) m neg w' hzk hm
          have HUF := Lib.hid (upZ_fits (z := zi zs i) (m := m) (neg := neg) hm.1)
          have y1 := (hFa.out.cell (p := ⟨lb, lo + 2 * i, none⟩) (Nat.lt_trans hlb hvl) (by show ¬ lb = _; omega)).trans ((HGV.out.cell (p := ⟨lb, lo + 2 * i, none⟩) hlb).trans hx1)
          have y2 := (hFa.out.cell (p := ⟨lb, lo + (2 * i + 1), none⟩) (Nat.lt_trans hlb hvl) (by show ¬ lb = _; omega)).trans ((HGV.out.cell (p := ⟨lb, lo + (2 * i + 1), none⟩) hlb).trans hx2)
          have hzr := (hFa.out.cell (p := ⟨zb, zo + i, none⟩) (Nat.lt_of_lt_of_le hzb GA.out.size) (by show ¬ zb = _; omega)).trans ((GA.out.cell (p := ⟨zb, zo + i, none⟩) hzb).trans hzx)
          have hzbn : ¬ zb = w1.heap.size := by omega
          have hlbn : ¬ lb = w1.heap.size := by omega
          clear hx1 hx2 hzx e1 e2
          have HLO := Lib.hid (payTo_length l zs n i)
          generalize payTo l zs n i = S at *
          generalize zi zs i = z at *
          have i1 : 2 * (i : Int) < l.length := by omega
          have i2 : 2 * (i : Int) + 1 < l.length := by omega
          have i3 : 0 ≤ 2 * (i : Int) := by omega
          have i4 : 0 ≤ 2 * (i : Int) + 1 := by omega
          have i5 : IntKind.i64.wrap (2 * (i : Int) + 1) = 2 * (i : Int) + 1 := IntWalk.i64_in _ (by omega)
          have i6 : (2 * (i : Int)).toNat = 2 * i := by omega
          have i7 : (2 * (i : Int) + 1).toNat = 2 * i + 1 := by omega
          have i8 : IntKind.i64.wrap (2 * (i : Int)) = 2 * (i : Int) := IntWalk.i64_in _ (by omega)
          clear h2K
          obtain ⟨Z, hZ⟩ : ∃ Z, (if neg then -(m : Int) else (m : Int)) = Z := ⟨_, rfl⟩
          rw [hZ] at y2 HFW hfn HUF
          cases hfit : fitsZ z Z with
          | false =>
            rw [hfit] at hfn HFW
            have HPE : Hid (r = ([], 2)) := Lib.hid (by rw [HP'.out, if_neg (by rw [fits_noR hfn.out hlt]; decide)])
            have GR := Lib.hid (hFa.out.grew GA.out (fun x h => by have : x = w1.heap.size := h; omega))
            clear HP' HUF hnx
            go_wp2_with (go_at_call 16; refine (HFW _).out.mono ?_; rintro e w3 ⟨rfl, g3⟩)
            go_ret2
            rw [HPE.out]
            exact payR_no (GR.out.trans g3)
          | true =>
            rw [hfit] at hfn HFW
            have hU := HUF.out hfit
            go_upto_region 13 with (go_at_call 16; refine (HFW _).out.mono ?_; rintro e w3 ⟨rfl, g3⟩)
            have hZp : Z = (m : Int) ∨ Z = -(m : Int) := by rw [← hZ]; cases neg <;> simp
            have hpw4 := pow_le4 m hm.2
            have G3 := Lib.hid g3
            have hzb3 : zb < wr.heap.size := World.block_lt_of_cell? wr ⟨zb, zo + i, none⟩ hzr
            have hlb3 : lb < wr.heap.size := World.block_lt_of_cell? wr ⟨lb, lo + 2 * i, none⟩ y1
            have hz3 := (g3.cell (p := ⟨zb, zo + i, none⟩) hzb3).trans hzr
            have y3 := (g3.cell (p := ⟨lb, lo + 2 * i, none⟩) hlb3).trans y1
            have hws : w.heap.size < wr.heap.size := World.block_lt_of_cell? wr ⟨w.heap.size, 2, none⟩ s2
            have s3 := (g3.cell (p := ⟨w.heap.size, 2, none⟩) hws).trans s2
            have hzb4 : zb < w3.heap.size := Nat.lt_of_lt_of_le hzb3 g3.size
            have hlb4 : lb < w3.heap.size := Nat.lt_of_lt_of_le hlb3 g3.size
            clear y1 y2 hzr s0 s1 s2 HFW HUF hZ g3
            have c1 : ¬ (m : Int) < 0 := by omega
            have c2 : -(m : Int) < 0 := by omega
            have c3 : IntKind.i64.wrap (- -(m : Int)) = (m : Int) := by rw [Int.neg_neg]; exact IntWalk.i64_in _ (by omega)
            have c4 : IntKind.i64.wrap (m : Int) = (m : Int) := IntWalk.i64_in _ (by omega)
            have c5 : - -(m : Int) = (m : Int) := Int.neg_neg _
            have HUB : Hid (∀ k, k < m → upZ z m / ((256 ^ k : Nat) : Int) % 256 = (byteZ z k : Nat)) := Lib.hid (fun k hk => upZ_byte z m k hk)
            have HU0 := hU.1
            by_cases hn : z < 0
            · have hup : upZ z m = z + ((256 ^ m : Nat) : Int) := by unfold upZ; rw [if_pos hn]
              have HPm := fun w => HPW w m hm.2
              have hUle : upZ z m < 4294967296 := by omega
              generalize 256 ^ m = q at *
              have c6 : IntKind.i64.wrap (z + (q : Int)) = upZ z m := by rw [hup]; exact IntWalk.i64_in _ (by omega)
              clear hup hU
              generalize upZ z m = U at *
              rcases hZp with rfl | rfl
              all_goals
                go_upto_region 18 with (go_at_call 17; refine (HPm _).out.mono ?_; rintro e w4 ⟨rfl, rfl⟩)
                clear c1 c2 c3 c4 c5 hz3 s3
                have OW3 := Lib.hid (hO.out.grew G3.out)
                go_wp2_with fail
                go_loopg [9, 10] m (fun kx s t wi => ∃ j : Nat, j + kx = m ∧ s = .int .i64 (U / ((256 ^ j : Nat) : Int)) ∧ t = .int .i64 j ∧ Hid (Own w1.heap.size 5 .u8 wi (.slice (some ⟨w1.heap.size, 0, none⟩) n n) (putLE S p z j)) ∧ Hid (Far (fun x => x = w1.heap.size) w3 wi))
                case atStart => exact ⟨0, by omega, by simp, rfl, OW3, Lib.hid (Far.refl _ _)⟩
                case round =>
                  obtain ⟨j, hj, rfl, rfl, hOj, hFj⟩ := hrel
                  by_cases hlj : j < m
                  · have y4 := (hFj.out.cell (p := ⟨lb, lo + 2 * i, none⟩) hlb4 hlbn).trans y3
                    have hplj := putLE_length S p z j
                    obtain ⟨hx, hfr⟩ := hOj.out.cellR (by omega) (p + j) (by omega)
                    have hq := HUB.out j hlj
                    have hd := Lib.hid (div_step U j HU0)
                    have hq0 : 0 ≤ U / ((256 ^ j : Nat) : Int) := Int.ediv_nonneg HU0 (Int.natCast_nonneg _)
                    have hq1 : 0 ≤ U / ((256 ^ (j + 1) : Nat) : Int) := Int.ediv_nonneg HU0 (Int.natCast_nonneg _)
                    have hq2 : U / ((256 ^ (j + 1) : Nat) : Int) ≤ U := Int.ediv_le_self _ HU0
                    generalize U / ((256 ^ j : Nat) : Int) = Y at *
                    generalize hY2 : U / ((256 ^ (j + 1) : Nat) : Int) = Y2 at *
                    have HY2 := Lib.hid hY2
                    have bb := byteZ_lt z j
                    have hput : Hid (putLE S p z (j + 1) = (putLE S p z j).set (p + j) (byteZ z j)) := Lib.hid rfl
                    generalize byteZ z j = B at *
                    have t1 : Y.tmod 256 = (B : Nat) := by rw [Int.tmod_eq_emod_of_nonneg hq0]; exact hq
                    have t2 : Y.tdiv 256 = Y2 := hd.out
                    have t3 : wrap64 Y2 = Y2 := IntWalk.wrap64_in _ (by omega)
                    have e0 : IntKind.i64.wrap ((p : Int) + (j : Int)) = ((p + j : Nat) : Int) := by rw [IntWalk.i64_in _ (by omega)]; omega
                    have b1 : (0 : Int) ≤ (p : Int) + j := by omega
                    have b2 : (p : Int) + j < n := by omega
                    have e3 : IntKind.u8.wrap (B : Int) = (B : Int) := IntWalk.u8_in _ (by omega)
                    have e4 : (B : Int) % 256 = (B : Int) := by omega
                    clear hd hY2 hq
                    go_wp2_with fail
                    have O2 := hOj.out.set (p + j) B (by omega)
                    have F2 := hFj.out.setCell (p := ⟨w1.heap.size, p + j, none⟩) rfl (.int .u8 (B : Nat))
                    rw [← hput.out] at O2
                    generalize wr.setCell ⟨w1.heap.size, p + j, none⟩ (.int .u8 (B : Nat)) = V4 at *
                    have O3 := Lib.hid O2
                    have F3 := Lib.hid F2
                    clear O2 F2 hx hfr
                    go_roundg (m - (j + 1))
                    case measure => omega
                    case rel => exact ⟨j + 1, by omega, by rw [HY2.out], by go_num, O3, F3⟩
                  · obtain rfl : j = m := by omega
                    rw [← hnx.out] at hOj
                    have F9 := Lib.hid ((hFa.out.trans (Far.of_grew G3.out)).trans hFj.out)
                    go_wp2_with fail
                    go_roundg (zs.length - (i + 1))
                    case measure => omega
                    case rel => exact ⟨i + 1, by omega, by go_num, hOj, hfn, F9⟩
            · have hup : upZ z m = z := by unfold upZ; rw [if_neg hn]
              have hUle : upZ z m < 4294967296 := by omega
              rw [← hup] at hz3 hn
              clear hup hU
              generalize upZ z m = U at *
              rcases hZp with rfl | rfl
              all_goals
                go_upto_region 18 with fail
                clear c1 c2 c3 c4 c5 hz3 s3
                have OW3 := Lib.hid (hO.out.grew G3.out)
                go_wp2_with fail
                go_loopg [9, 10] m (fun kx s t wi => ∃ j : Nat, j + kx = m ∧ s = .int .i64 (U / ((256 ^ j : Nat) : Int)) ∧ t = .int .i64 j ∧ Hid (Own w1.heap.size 5 .u8 wi (.slice (some ⟨w1.heap.size, 0, none⟩) n n) (putLE S p z j)) ∧ Hid (Far (fun x => x = w1.heap.size) w3 wi))
                case atStart => exact ⟨0, by omega, by simp, rfl, OW3, Lib.hid (Far.refl _ _)⟩
                case round =>
                  obtain ⟨j, hj, rfl, rfl, hOj, hFj⟩ := hrel
                  by_cases hlj : j < m
                  · have y4 := (hFj.out.cell (p := ⟨lb, lo + 2 * i, none⟩) hlb4 hlbn).trans y3
                    have hplj := putLE_length S p z j
                    obtain ⟨hx, hfr⟩ := hOj.out.cellR (by omega) (p + j) (by omega)
                    have hq := HUB.out j hlj
                    have hd := Lib.hid (div_step U j HU0)
                    have hq0 : 0 ≤ U / ((256 ^ j : Nat) : Int) := Int.ediv_nonneg HU0 (Int.natCast_nonneg _)
                    have hq1 : 0 ≤ U / ((256 ^ (j + 1) : Nat) : Int) := Int.ediv_nonneg HU0 (Int.natCast_nonneg _)
                    have hq2 : U / ((256 ^ (j + 1) : Nat) : Int) ≤ U := Int.ediv_le_self _ HU0
                    generalize U / ((256 ^ j : Nat) : Int) = Y at *
                    generalize hY2 : U / ((256 ^ (j + 1) : Nat) : Int) = Y2 at *
                    have HY2 := Lib.hid hY2
                    have bb := byteZ_lt z j
                    have hput : Hid (putLE S p z (j + 1) = (putLE S p z j).set (p + j) (byteZ z j)) := Lib.hid rfl
                    generalize byteZ z j = B at *
                    have t1 : Y.tmod 256 = (B : Nat) := by rw [Int.tmod_eq_emod_of_nonneg hq0]; exact hq
                    have t2 : Y.tdiv 256 = Y2 := hd.out
                    have t3 : wrap64 Y2 = Y2 := IntWalk.wrap64_in _ (by omega)
                    have e0 : IntKind.i64.wrap ((p : Int) + (j : Int)) = ((p + j : Nat) : Int) := by rw [IntWalk.i64_in _ (by omega)]; omega
                    have b1 : (0 : Int) ≤ (p : Int) + j := by omega
                    have b2 : (p : Int) + j < n := by omega
                    have e3 : IntKind.u8.wrap (B : Int) = (B : Int) := IntWalk.u8_in _ (by omega)
                    have e4 : (B : Int) % 256 = (B : Int) := by omega
                    clear hd hY2 hq
                    go_wp2_with fail
                    have O2 := hOj.out.set (p + j) B (by omega)
                    have F2 := hFj.out.setCell (p := ⟨w1.heap.size, p + j, none⟩) rfl (.int .u8 (B : Nat))
                    rw [← hput.out] at O2
                    generalize wr.setCell ⟨w1.heap.size, p + j, none⟩ (.int .u8 (B : Nat)) = V4 at *
                    have O3 := Lib.hid O2
                    have F3 := Lib.hid F2
                    clear O2 F2 hx hfr
                    go_roundg (m - (j + 1))
                    case measure => omega
                    case rel => exact ⟨j + 1, by omega, by rw [HY2.out], by go_num, O3, F3⟩
                  · obtain rfl : j = m := by omega
                    rw [← hnx.out] at hOj
                    have F9 := Lib.hid ((hFa.out.trans (Far.of_grew G3.out)).trans hFj.out)
                    go_wp2_with fail
                    go_roundg (zs.length - (i + 1))
                    case measure => omega
                    case rel => exact ⟨i + 1, by omega, by go_num, hOj, hfn, F9⟩
        · obtain rfl : i = zs.length := by omega
          have HPO : Hid (r = (payTo l zs n zs.length, 0)) := Lib.hid (by rw [HP'.out, if_pos hft.out])
          have OL := Lib.hid hO.out.lt
          have OR := Lib.hid hO.out.row
          have GR := Lib.hid (hFa.out.grew GA.out (fun x h => by have : x = w1.heap.size := h; omega))
          clear hO hFa HP' hft HFI HLV
          go_wp2_with fail
          go_ret2
          rw [HPO.out]
          exact ⟨_, rfl, OR.out, fun _ x hx => by have := OL.out x hx; omega, GR.out⟩
-- PAY]
end Go.Proofs.YtnhigfkhdmkoeaaGreatDoor

namespace Go.Proofs.YtnhigfkhdmkoeaaGreatDoor
open Go.RowKit
set_option linter.unusedVariables false

def exRmc : List Nat := [71, 80, 82, 77, 67, 44, 48, 48, 48, 48, 48, 53, 44, 65, 44, 44, 44, 44, 44, 44, 44, 48, 49, 48, 49, 50, 48, 44, 44]
def exTp : List Int := [6000, 0, 0, 2000, 0, 0]
theorem ex_rmc : msgOf 1 exRmc = some { kind := 1, utc := true, sec := 3786825605, leap := false, cycle := 100, next := false } := by kernel_rfl
theorem ex_pay : ubxPay 3329 exTp = ([112, 23, 0, 0, 0, 0, 0, 0, 0, 0, 0, 0, 208, 7, 0, 0], 0) := by kernel_rfl
theorem ex_tp : msgOf 2 [13, 1, 112, 23, 0, 0, 0, 0, 0, 0, 0, 0, 0, 0, 208, 7, 0, 0] = some { kind := 6, utc := false, sec := 1209600006, leap := false, cycle := 0, next := true } := by kernel_rfl
theorem lit_own {B : Nat} (w : World) (E : TypeId) (cs : Array Value) (ns : List Nat) (n : Nat) (hB : B ≤ w.heap.size) (hc : cs = (cellsOf .u8 ns).toArray) (hn : n = ns.length) (hm : ns.length ≤ maxLen) : Own B E .u8 (w.alloc (.cells cs E)) (.slice (some ⟨w.heap.size, 0, none⟩) n n) ns := by
  subst hc hn
  exact Own.lit w .u8 E B hB ns hm
theorem row_block {w : World} {b : Nat} {cs : Array Value} {E : TypeId} {fr : Nat × Nat} {S : List Nat} (h : w.heap[b]? = some (.cells cs E fr)) (hc : cs = (cellsOf .u8 S).toArray) : Row .u8 w (.slice (some ⟨b, 0, none⟩) S.length S.length) S := by
  subst hc
  refine ⟨_, _, rfl, Nat.le_refl _, fun _ => ⟨b, 0, rfl, (Array.getElem?_eq_some_iff.1 h).1, fun i hi => ?_⟩⟩
  rw [cell_of_row w b (0 + i) _ E fr h, Nat.zero_add]
  simp [cellsOf, wd, hi]
theorem known_rmc (w : World) (ht : Tab w) : Calls Tryz.prog 6 #[.agg #[.int .u8 1, .slice (some ⟨w.heap.size, 0, none⟩) 29 29]] (w.alloc (.cells #[.int .u8 71, .int .u8 80, .int .u8 82, .int .u8 77, .int .u8 67, .int .u8 44, .int .u8 48, .int .u8 48, .int .u8 48, .int .u8 48, .int .u8 48, .int .u8 53, .int .u8 44, .int .u8 65, .int .u8 44, .int .u8 44, .int .u8 44, .int .u8 44, .int .u8 44, .int .u8 44, .int .u8 44, .int .u8 48, .int .u8 49, .int .u8 48, .int .u8 49, .int .u8 50, .int .u8 48, .int .u8 44, .int .u8 44] 5 (29, 30))) fun e w' => e = .returned (.tuple #[.agg #[.int .u8 1, .bool true, .int .i64 3786825605, .bool false, .int .i64 100, .bool false], .bool true]) ∧ Grew w w' := by
  have h := prog_MsgOf 1 (.slice (some ⟨w.heap.size, 0, none⟩) 29 29) exRmc (w.alloc (.cells #[.int .u8 71, .int .u8 80, .int .u8 82, .int .u8 77, .int .u8 67, .int .u8 44, .int .u8 48, .int .u8 48, .int .u8 48, .int .u8 48, .int .u8 48, .int .u8 53, .int .u8 44, .int .u8 65, .int .u8 44, .int .u8 44, .int .u8 44, .int .u8 44, .int .u8 44, .int .u8 44, .int .u8 44, .int .u8 48, .int .u8 49, .int .u8 48, .int .u8 49, .int .u8 50, .int .u8 48, .int .u8 44, .int .u8 44] 5 (29, 30))) (row_block (S := exRmc) (heap_alloc_new w _) (by kernel_rfl)) (Bytes.of_mem (by decide)) (by decide) (ht.grew ((Grew.refl w).alloc _))
  rw [ex_rmc] at h
  refine h.mono ?_
  rintro e w' ⟨rfl, g⟩
  exact ⟨rfl, ((Grew.refl w).alloc _).trans g⟩
theorem known_pay (w : World) : Calls Tryz.prog 8 #[.agg #[.int .u8 13, .int .u8 1, .slice (some ⟨w.heap.size, 0, none⟩) 6 6]] (w.alloc (.cells #[.int .i64 6000, .int .i64 0, .int .i64 0, .int .i64 2000, .int .i64 0, .int .i64 0] 2)) fun e w' => ∃ A c, e = .returned (.tuple #[.slice A 16 c, .int .i64 0]) ∧ Row .u8 w' (.slice A 16 c) [112, 23, 0, 0, 0, 0, 0, 0, 0, 0, 0, 0, 208, 7, 0, 0] ∧ Grew w w' := by
  have h := ref12_Payload 13 1 (.slice (some ⟨w.heap.size, 0, none⟩) 6 6) exTp (w.alloc (.cells #[.int .i64 6000, .int .i64 0, .int .i64 0, .int .i64 2000, .int .i64 0, .int .i64 0] 2)) (by decide) (by decide) (row_litZ w .i64 2 (0, 0) exTp) (fun i => by
    by_cases q : i < 6
    · obtain rfl | rfl | rfl | rfl | rfl | rfl : i = 0 ∨ i = 1 ∨ i = 2 ∨ i = 3 ∨ i = 4 ∨ i = 5 := by omega
      all_goals decide
    · unfold zi
      rw [List.getD_eq_getElem?_getD, List.getElem?_eq_none (by simp [exTp]; omega)]
      decide) (by decide)
  rw [show 13 * 256 + 1 = 3329 from rfl, ex_pay] at h
  refine h.mono ?_
  rintro e w' ⟨v, rfl, hr, _, g⟩
  obtain ⟨A, c, rfl, _⟩ := id hr
  exact ⟨A, c, rfl, hr, ((Grew.refl w).alloc _).trans g⟩
theorem known_tp (v : Value) (w : World) (ht : Tab w) (hr : Row .u8 w v [13, 1, 112, 23, 0, 0, 0, 0, 0, 0, 0, 0, 0, 0, 208, 7, 0, 0]) : Calls Tryz.prog 6 #[.agg #[.int .u8 2, v]] w fun e w' => e = .returned (.tuple #[.agg #[.int .u8 6, .bool false, .int .i64 1209600006, .bool false, .int .i64 0, .bool true], .bool true]) ∧ Grew w w' := by
  have h := prog_MsgOf 2 v _ w hr (Bytes.of_mem (by decide)) (by decide) ht
  rw [ex_tp] at h
  exact h
set_option maxRecDepth 1000000 in
set_option maxHeartbeats 4000000 in
theorem law_known15 (w : World) (ht : Tab w) : Calls Tryz.prog 5 #[] w fun e w' => e = .returned (.bool true) ∧ Grew w w' := by
  have HA := fun w ht => Lib.hid (known_rmc w ht)
  have HB := fun w => Lib.hid (known_pay w)
  have HC := fun v w ht hr => Lib.hid (known_tp v w ht hr)
  have HT := Lib.hid ht
  clear ht
  have kc := fun (w : World) (C : Array Value) (n c : Nat) => Lib.run_convert_bytes_const (P := Tryz.prog) w 22 5 C n c Tryz.underlying22 Tryz.underlying5
  go_enter Tryz.func5, Tryz.ntmps5
  go_upto_region 2 with (go_at_call 6; refine (HA _ HT.out).out.mono ?_; rintro e w1 ⟨rfl, g1⟩)
  obtain ⟨V1, hV1, k1, x1⟩ := six_new w1 (.int .u8 1) (.bool true) (.int .i64 3786825605) (.bool false) (.int .i64 100) (.bool false) 27
  rw [hV1]
  have G1 := Lib.hid (g1.trans k1)
  have X1 := Lib.hid x1
  clear hV1 k1 x1 HA kc
  go_upto_region 3 with (go_at_call 8; refine (HB _).out.mono ?_; rintro e w2 ⟨A, c, rfl, hr, g2⟩)
  have G2 := Lib.hid (G1.out.trans g2)
  have X2 := Lib.hid (X1.out.grew g2)
  have R2 := Lib.hid hr
  clear hr HB X1
  have hO := Lib.hid (lit_own (B := w2.heap.size) w2 5 #[.int .u8 13, .int .u8 1] [13, 1] 2 (Nat.le_refl _) (by kernel_rfl) rfl (by decide))
  have hR := Lib.hid (R2.out.grew ((Grew.refl w2).alloc (.cells #[.int .u8 13, .int .u8 1] 5)))
  go_upto_region 4 with (first | (refine wpList_joinN _ rfl _ _ 22 rfl w2.heap.size 5 .u8 1 Tryz.underlying22 infoU8 (.slice (some ⟨w2.heap.size, 0, none⟩) 2 2) [13, 1] rfl hO.out (.slice A 16 c) [112, 23, 0, 0, 0, 0, 0, 0, 0, 0, 0, 0, 208, 7, 0, 0] rfl hR.out (by decide) (by decide) (by simp) ?_; intro v3 w3 hown hgrow hnil; have g3 : Grew w2 w3 := Below.grown ((Grew.refl w2).alloc (.cells #[.int .u8 13, .int .u8 1] 5)) hgrow ((Grew.refl w2).alloc (.cells #[.int .u8 13, .int .u8 1] 5)).size (fun b hb => (World.ownsRow.lt hO.out b hb).1); have hrow3 : Row .u8 w3 v3 [13, 1, 112, 23, 0, 0, 0, 0, 0, 0, 0, 0, 0, 0, 208, 7, 0, 0] := hown.row; obtain ⟨A3, c3, hv3⟩ : ∃ A3 c3, v3 = .slice A3 18 c3 := by { obtain ⟨A3, c3, h3, _⟩ := hrow3; exact ⟨A3, c3, h3⟩ }; subst hv3; clear hown hgrow hnil; replace hrow3 := Lib.hid hrow3) | (go_at_call 6; refine (HC _ _ (HT.out.grew (G2.out.trans g3)) hrow3.out).out.mono ?_; rintro e w4 ⟨rfl, g4⟩))
  obtain ⟨V4, hV4, k4, x4⟩ := six_new w4 (.int .u8 6) (.bool false) (.int .i64 1209600006) (.bool false) (.int .i64 0) (.bool true) 27
  rw [hV4]
  obtain ⟨y0, b0, b1, b2, b3, b4, b5⟩ := X2.out.grew (g3.trans (g4.trans k4))
  obtain ⟨z0, d0, d1, d2, d3, d4, d5⟩ := x4
  have G4 := Lib.hid (G2.out.trans (g3.trans (g4.trans k4)))
  clear hV4 X2 hO hR R2 HC hrow3
  go_wp2_with fail
  go_ret
  exact ⟨by first | rfl | simp, G4.out⟩
end Go.Proofs.YtnhigfkhdmkoeaaGreatDoor

namespace Go.Proofs.YtnhigfkhdmkoeaaGreatDoor
open Go.RowKit
set_option linter.unusedVariables false

/-- A message of a UTC second, of a kind and a cycle. -/
def UtcLike (kind cyc : Nat) (m : Mg) : Prop := m.kind = kind ∧ m.utc = true ∧ m.cycle = cyc ∧ m.next = false ∧ 0 ≤ m.sec ∧ m.sec ≤ 9000000000000000000 ∧ (m.leap = true → m.sec % 60 = 59)
def GpsLike (kind cyc : Nat) (nx : Bool) (m : Mg) : Prop := m.kind = kind ∧ m.utc = false ∧ m.cycle = cyc ∧ m.next = nx ∧ 0 ≤ m.sec ∧ m.sec ≤ 9000000000000000000 ∧ m.leap = false
theorem minute_60 (y m d h i : Int) : minuteAt y m d h i % 60 = 0 := by unfold minuteAt; omega
theorem utc_like {kind cyc : Nat} {y m d h i s : Int} {r : Mg} (e : utcM kind cyc y m d h i s = some r) : UtcLike kind cyc r := by
  unfold utcM at e
  split at e
  · cases e
  · rename_i hc
    have hok : minuteOk y m d h i = true := by
      by_cases q : minuteOk y m d h i = true
      · exact q
      · exact absurd (.inr (.inr (.inr (by simpa using q)))) hc
    have hy : 1980 ≤ y := by
      apply Classical.byContradiction
      intro q
      exact hc (.inl (by omega))
    have hs : 0 ≤ s ∧ s ≤ 60 := by
      constructor
      · apply Classical.byContradiction
        intro q
        exact hc (.inr (.inl (by omega)))
      · apply Classical.byContradiction
        intro q
        exact hc (.inr (.inr (.inl (by omega))))
    have hb := minute_bounds hy hok
    have h6 := minute_60 y m d h i
    simp only [Option.some.injEq] at e
    subst e
    refine ⟨rfl, rfl, rfl, rfl, ?_, ?_, ?_⟩
    · simp only; split <;> omega
    · simp only; split <;> omega
    · simp only [decide_eq_true_eq]
      intro q
      rw [if_pos q]
      omega
theorem gps_like {kind cyc : Nat} {nx : Bool} {n ms : Int} (hn : 0 ≤ n ∧ n ≤ 65535) {r : Mg} (e : gpsM kind cyc nx n ms = some r) : GpsLike kind cyc nx r := by
  unfold gpsM at e
  split at e
  · cases e
  · rename_i hc
    simp only [Option.some.injEq] at e
    subst e
    have h1 : 0 ≤ ms := by
      apply Classical.byContradiction
      intro q
      exact hc (.inl (by omega))
    have h2 : ms < 604800000 := by
      apply Classical.byContradiction
      intro q
      exact hc (.inr (.inl (by omega)))
    refine ⟨rfl, rfl, rfl, rfl, ?_, ?_, rfl⟩ <;> simp only <;> omega
/-- What kinds there are. -/
def MayBe (m : Mg) : Prop := UtcLike 1 100 m ∨ UtcLike 2 0 m ∨ UtcLike 3 0 m ∨ GpsLike 4 0 false m ∨ UtcLike 5 0 m ∨ GpsLike 6 0 true m ∨ GpsLike 7 1024 false m ∨ GpsLike 8 1024 false m ∨ GpsLike 9 0 false m ∨ UtcLike 10 0 m ∨ UtcLike 11 0 m
theorem may_nmea {r : Told × Nat} {m : Mg} (e : nmeaM r = some m) : MayBe m := by
  unfold nmeaM at e
  split at e
  · cases e
  · split at e
    · split at e
      · exact .inl (utc_like e)
      · cases e
    · split at e
      · split at e
        · exact .inr (.inl (utc_like e))
        · cases e
      · cases e
theorem may_ubx {c : Nat} {S : List Nat} (hB : Bytes S) {m : Mg} (e : ubxM c (ubxDec c S) = some m) : MayBe m := by
  obtain ⟨⟨zs, er⟩, hz⟩ : ∃ r, ubxDec c S = r := ⟨_, rfl⟩
  rw [hz] at e
  unfold ubxM at e
  split at e
  · cases e
  · rename_i h0
    have h0 : er = 0 := by simpa using h0
    subst h0
    obtain ⟨hlen, hfit⟩ := ubx_fits hB hz
    split at e
    · split at e
      · exact .inr (.inr (.inl (utc_like e)))
      · cases e
    · split at e
      · split at e
        · rename_i hc _
          subst hc
          exact .inr (.inr (.inr (.inl (gps_like (vfit2 (fits_at hfit 2 (by decide))) e))))
        · cases e
      · split at e
        · split at e
          · exact .inr (.inr (.inr (.inr (.inl (utc_like e)))))
          · cases e
        · split at e
          · split at e
            · rename_i hc _
              subst hc
              exact .inr (.inr (.inr (.inr (.inr (.inl (gps_like (vfit2 (fits_at hfit 3 (by decide))) e))))))
            · cases e
          · cases e
theorem may_srf {S : List Nat} (hB : Bytes S) {m : Mg} (e : srfM (srfDec S) = some m) : MayBe m := by
  obtain ⟨⟨k, zs, er⟩, hz⟩ : ∃ r, srfDec S = r := ⟨_, rfl⟩
  rw [hz] at e
  unfold srfM at e
  split at e
  · cases e
  · rename_i h0
    have h0 : er = 0 := by simpa using h0
    subst h0
    obtain ⟨hlen, hfit⟩ := srf_fits hB hz
    split at e
    · split at e
      · exact .inr (.inr (.inr (.inr (.inr (.inr (.inl (gps_like (by omega) e)))))))
      · cases e
    · split at e
      · split at e
        · exact .inr (.inr (.inr (.inr (.inr (.inr (.inr (.inl (gps_like (by omega) e))))))))
        · cases e
      · split at e
        · split at e
          · rename_i hc _
            subst hc
            exact .inr (.inr (.inr (.inr (.inr (.inr (.inr (.inr (.inl (gps_like (vfit2 (fits_at hfit 0 (by decide))) e)))))))))
          · cases e
        · split at e
          · split at e
            · exact .inr (.inr (.inr (.inr (.inr (.inr (.inr (.inr (.inr (.inl (utc_like e))))))))))
            · cases e
          · split at e
            · split at e
              · exact .inr (.inr (.inr (.inr (.inr (.inr (.inr (.inr (.inr (.inr (utc_like e))))))))))
              · cases e
            · cases e
theorem may_all {k : Nat} {S : List Nat} (hB : Bytes S) {m : Mg} (e : msgOf k S = some m) : MayBe m := by
  unfold msgOf at e
  split at e
  · exact may_nmea e
  · split at e
    · split at e
      · cases e
      · exact may_ubx (bytes_drop hB 2) e
    · split at e
      · exact may_srf hB e
      · cases e
end Go.Proofs.YtnhigfkhdmkoeaaGreatDoor

