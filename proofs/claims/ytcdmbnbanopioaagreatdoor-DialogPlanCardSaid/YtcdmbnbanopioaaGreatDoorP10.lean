/-
  The document's UBX messages: a payload written.
  The document's UBX messages: a frame.
  The document's SiRF messages: a frame.
  The plans of a dialogue: plain; the document's.
  The plans of a dialogue: the document's.
-/
import Derived.Test.YtcdmbnbanopioaaGreatDoorP02
import Derived.Test.YtcdmbnbanopioaaGreatDoorP07
import Derived.Test.YtcdmbnbanopioaaGreatDoorP05
import Derived.Test.YtcdmbnbanopioaaGreatDoorP09

namespace Go.Proofs.YtcdmbnbanopioaaGreatDoor
open Go.RowKit
set_option linter.unusedVariables false

theorem wpList_makeR {P : Program} (w : World) {ops : Array Oper} {rest : List Oper} {o : Oper} {a : Act} {Q : Exit → Act → World → Prop} (hgd : o.guard = none) (l c : Operand) (t : TypeId) (hop : o.op = .makeSlice t l c)
    (base : Nat) (E : TypeId) (k : IntKind) (bytes : Nat) (ht : P.underlying t = some (.slice E)) (hi : (P.info? E).map (fun i => (i.zero, i.size, i.bytes)) = some (some (.int k 0), 1, bytes))
    (n : Nat) (hl : a.eval l = .int .i64 (n : Nat)) (hc : a.eval c = .int .i64 (n : Nat)) (hb : bytes * n ≤ 281474976710656) (hm : n ≤ maxLen) (hbase : base ≤ w.heap.size)
    (h : ∀ w', Own base E k w' (.slice (some ⟨w.heap.size, 0, none⟩) n n) (List.replicate n 0) → Grew w w' → wpList P ops Q rest (a.put o.dst (.slice (some ⟨w.heap.size, 0, none⟩) n n)) w') : wpList P ops Q (o :: rest) a w := by
  obtain ⟨i, hi0, hz0, hz1, hz2⟩ := info_parts hi
  refine wpList_make_full w hgd l c t hop base E i (.int k 0) 1 ht hi0 hz0 hz1 .i64 .i64 _ _ n hl hc rfl rfl (by rw [hz2]; exact hb) hm hbase fun w' h1 h2 => h w' ?_ ?_
  · have e : (madeCells (Value.int k 0).cells (n * 1)).toList = List.replicate n (.int k 0) := by
      rw [show (Value.int k 0).cells = #[.int k 0] from rfl, Nat.mul_one]
      unfold madeCells
      refine List.ext_getElem (by simp) fun i h1 h2 => ?_
      simp [Nat.mod_one]
    rw [e] at h1
    unfold Own
    rw [List.length_replicate, show cellsOf k (List.replicate n 0) = List.replicate n (.int k 0) by simp [cellsOf]]
    exact h1
  · exact Below.grown (Grew.refl w) h2 (Nat.le_refl _) (fun b hb => by cases hb)
theorem Own.cellR {w : World} {B : Nat} {E : TypeId} {k : IntKind} {g c n : Nat} {ns : List Nat} (h : Own B E k w (.slice (some ⟨g, 0, none⟩) n c) ns) (hn : n = ns.length) (j : Nat) (hj : j < ns.length) : w.cell? ⟨g, j, none⟩ = some (.int k (wd ns j : Nat)) ∧ w.frozen? ⟨g, j, none⟩ = false := by
  subst hn
  unfold Own at h
  refine ⟨?_, World.ownsRow.frozenAt h j⟩
  rw [World.ownsRow.cellAt h j (by omega)]
  simp [cellsOf, wd, hj]
theorem fits_noR {l zs : List Int} {k K : Nat} (h : fitsTo l zs (k + 1) = false) (hk : k < K) : fitsTo l zs K = false := by
  cases q : fitsTo l zs K with
  | false => rfl
  | true => rw [fitsTo_all q (k + 1) (by omega)] at h; cases h
-- [PAY
set_option maxRecDepth 100000 in
set_option maxHeartbeats 8000000 in
theorem ref12_Payload (a b : Nat) (v : Value) (zs : List Int) (w : World) (ha : a < 256) (hb : b < 256) (hr : RowZ .i64 w v zs) (hz : ∀ i, -9223372036854775808 ≤ zi zs i ∧ zi zs i ≤ 9223372036854775807) (hl : zs.length ≤ 100000) :
    Calls Tryz.prog 30 #[.agg #[.int .u8 (a : Nat), .int .u8 (b : Nat), v]] w (PayR (ubxPay (a * 256 + b) zs) w) := by
  have hok := ubx_layOk (a * 256 + b)
  have HF := lay_field (a * 256 + b)
  have HL := fun w => ref12_Layout a b w ha hb
  have hpay : ubxPay (a * 256 + b) zs = if (ubxLay (a * 256 + b)).1 = 0 then ([], 7) else if 2 * zs.length ≠ (ubxLay (a * 256 + b)).2.length then ([], 2) else if fitsTo (ubxLay (a * 256 + b)).2 zs zs.length = true then (payTo (ubxLay (a * 256 + b)).2 zs (ubxLay (a * 256 + b)).1 zs.length, 0) else ([], 2) := rfl
  generalize ubxPay (a * 256 + b) zs = r at *
  generalize (ubxLay (a * 256 + b)).1 = n at *
  generalize (ubxLay (a * 256 + b)).2 = l at *
  replace HL := fun w => Lib.hid (HL w)
  have hev := hok.even
  have HR := Lib.hid hr
  obtain ⟨ZA, zc, rfl, hzc⟩ := hr.form
  clear hr
  go_enter Tryz.func30, Tryz.ntmps30
  go_upto_region 1 with fail
  obtain ⟨W, hW, g0, T0⟩ := three_new w (.int .u8 (a : Nat)) (.int .u8 (b : Nat)) (.slice ZA zs.length zc) 37
  rw [hW]
  clear hW
  have T1 := Lib.hid T0
  obtain ⟨_, s0, s1, s2, _, _, _⟩ := T0
  go_upto_region 2 with (go_at_call 51; refine (HL _).out.mono ?_; rintro e w1 ⟨lv, rfl, hlv, g1⟩)
  obtain ⟨LA, lc, rfl, hlc⟩ := hlv.form
  obtain ⟨_, s0, s1, s2, _, _, _⟩ := T1.out.grew g1
  have G1 := Lib.hid (g0.trans g1)
  by_cases hn0 : n = 0
  · have HP0 : Hid (r = ([], 7)) := Lib.hid (by rw [hpay, if_pos hn0])
    subst hn0
    clear hpay
    go_wp2_with fail
    go_ret2
    rw [HP0.out]
    exact payR_no G1.out
  · have n0 : ¬ (n : Int) = 0 := by omega
    by_cases hne : 2 * zs.length ≠ l.length
    · have HP0 : Hid (r = ([], 2)) := Lib.hid (by rw [hpay, if_neg hn0, if_pos hne])
      have n1 : ¬ (zs.length : Int) * 2 = (l.length : Int) := by omega
      have n2 : IntKind.i64.wrap ((zs.length : Int) * 2) = (zs.length : Int) * 2 := IntWalk.i64_in _ (by omega)
      clear hpay
      go_wp2_with fail
      go_ret2
      rw [HP0.out]
      exact payR_no G1.out
    · have HP' : Hid (r = if fitsTo l zs zs.length = true then (payTo l zs n zs.length, 0) else ([], 2)) := Lib.hid (by rw [hpay, if_neg hn0, if_neg hne])
      have H2K : Hid (2 * zs.length = l.length) := by show _ = _; omega
      have n1 : (zs.length : Int) * 2 = (l.length : Int) := by omega
      have n2 : IntKind.i64.wrap ((zs.length : Int) * 2) = (l.length : Int) := by rw [n1]; exact IntWalk.i64_in _ (by omega)
      clear hpay hne
      go_upto_region 7 with (refine wpList_makeR _ rfl _ _ 25 rfl w1.heap.size 5 .u8 1 Tryz.underlying25 infoU8 n rfl rfl (by omega) (by unfold maxLen; omega) (Nat.le_refl _) ?_; intro V2 hO0 gV2)
      have hvl : w1.heap.size < V2.heap.size := (hO0.lt _ rfl).2
      have hw1 : w.heap.size < w1.heap.size := Nat.lt_of_lt_of_le T1.out.lt g1.size
      have GA := Lib.hid (G1.out.trans gV2)
      have HLV := Lib.hid hlv
      have HFI := Lib.hid HF
      have HZ := Lib.hid hz
      have HFT := fun v m neg w hv hm => Lib.hid (ref12_Fits v m neg w hv hm)
      have HPW := fun w m h => Lib.hid (ref12_power m w h)
      have HGV := Lib.hid gV2
      have hev1 := hev.2.1
      have hev2 := hev.2.2
      have TV := Lib.hid (T1.out.grew (g1.trans gV2))
      clear HF hz hlv s0 s1 s2 HL hev n1 n2
      go_wp2_with fail
      go_loopg [7] (zs.length) (fun kx s wr => ∃ k : Nat, k + kx = zs.length ∧ s = .int .i64 k ∧ Hid (Own w1.heap.size 5 .u8 wr (.slice (some ⟨w1.heap.size, 0, none⟩) n n) (payTo l zs n k)) ∧ Hid (fitsTo l zs k = true) ∧ Hid (Far (fun x => x = w1.heap.size) V2 wr))
      case atStart => exact ⟨0, by omega, rfl, Lib.hid (by unfold payTo; exact hO0), Lib.hid rfl, Lib.hid (Far.refl _ _)⟩
      case round =>
        obtain ⟨i, hi, rfl, hO, hft, hFa⟩ := hrel
        obtain ⟨_, s0, s1, s2, _, _, _⟩ := TV.out.far hFa.out (by show ¬ w.heap.size = _; omega)
        by_cases hlt : i < zs.length
        · have h2K := H2K.out
          obtain ⟨p, m, neg, e1, e2, hm, hpm⟩ := HFI.out i (by omega)
          obtain ⟨lb, lo, rfl, hlb, hx1⟩ := HLV.out.at_ (i := 2 * i) (by omega)
          obtain ⟨lb', lo', e3, _, hx2⟩ := HLV.out.at_ (i := 2 * i + 1) (by omega)
          cases e3
          rw [e1] at hx1
          rw [e2] at hx2
          obtain ⟨zb, zo, rfl, hzb, hzx⟩ := HR.out.at_ (i := i) hlt
          have hzk := HZ.out i
          have hnx : Hid (payTo l zs n (i + 1) = putLE (payTo l zs n i) p (zi zs i) m) := Lib.hid (by rw [payTo, e1, e2]; congr 1; cases neg <;> simp)
          have hfn := Lib.hid (show fitsTo l zs (i + 1) = (fitsTo l zs i && fitsZ (zi zs i) (zi l (2 * i + 1))) from rfl)
          rw [hft.out, Bool.true_and, e2] at hfn
          have hpl := payTo_length l zs n i
          have HFW := fun w' => HFT (zi zs i) m neg w' hzk hm
          have HUF := Lib.hid (upZ_fits (z := zi zs i) (m := m) (neg := neg) hm.1)
          have y1 := (hFa.out.cell (p := ⟨lb, lo + 2 * i, none⟩) (Nat.lt_trans hlb hvl) (by show ¬ lb = _; omega)).trans ((HGV.out.cell (p := ⟨lb, lo + 2 * i, none⟩) hlb).trans hx1)
          have y2 := (hFa.out.cell (p := ⟨lb, lo + (2 * i + 1), none⟩) (Nat.lt_trans hlb hvl) (by show ¬ lb = _; omega)).trans ((HGV.out.cell (p := ⟨lb, lo + (2 * i + 1), none⟩) hlb).trans hx2)
          have hzr := (hFa.out.cell (p := ⟨zb, zo + i, none⟩) (Nat.lt_of_lt_of_le hzb GA.out.size) (by show ¬ zb = _; omega)).trans ((GA.out.cell (p := ⟨zb, zo + i, none⟩) hzb).trans hzx)
          have hzbn : ¬ zb = w1.heap.size := by omega
          have hlbn : ¬ lb = w1.heap.size := by omega
          clear hx1 hx2 hzx e1 e2
          have HLO := Lib.hid (payTo_length l zs n i)
          generalize payTo l zs n i = S at *
          generalize zi zs i = z at *
          have i1 : 2 * (i : Int) < l.length := by omega
          have i2 : 2 * (i : Int) + 1 < l.length := by omega
          have i3 : 0 ≤ 2 * (i : Int) := by omega
          have i4 : 0 ≤ 2 * (i : Int) + 1 := by omega
          have i5 : IntKind.i64.wrap (2 * (i : Int) + 1) = 2 * (i : Int) + 1 := IntWalk.i64_in _ (by omega)
          have i6 : (2 * (i : Int)).toNat = 2 * i := by omega
          have i7 : (2 * (i : Int) + 1).toNat = 2 * i + 1 := by omega
          have i8 : IntKind.i64.wrap (2 * (i : Int)) = 2 * (i : Int) := IntWalk.i64_in _ (by omega)
          clear h2K
          obtain ⟨Z, hZ⟩ : ∃ Z, (if neg then -(m : Int) else (m : Int)) = Z := ⟨_, rfl⟩
          rw [hZ] at y2 HFW hfn HUF
          cases hfit : fitsZ z Z with
          | false =>
            rw [hfit] at hfn HFW
            have HPE : Hid (r = ([], 2)) := Lib.hid (by rw [HP'.out, if_neg (by rw [fits_noR hfn.out hlt]; decide)])
            have GR := Lib.hid (hFa.out.grew GA.out (fun x h => by have : x = w1.heap.size := h; omega))
            clear HP' HUF hnx
            go_wp2_with (go_at_call 52; refine (HFW _).out.mono ?_; rintro e w3 ⟨rfl, g3⟩)
            go_ret2
            rw [HPE.out]
            exact payR_no (GR.out.trans g3)
          | true =>
            rw [hfit] at hfn HFW
            have hU := HUF.out hfit
            go_upto_region 13 with (go_at_call 52; refine (HFW _).out.mono ?_; rintro e w3 ⟨rfl, g3⟩)
            have hZp : Z = (m : Int) ∨ Z = -(m : Int) := by rw [← hZ]; cases neg <;> simp
            have hpw4 := pow_le4 m hm.2
            have G3 := Lib.hid g3
            have hzb3 : zb < wr.heap.size := World.block_lt_of_cell? wr ⟨zb, zo + i, none⟩ hzr
            have hlb3 : lb < wr.heap.size := World.block_lt_of_cell? wr ⟨lb, lo + 2 * i, none⟩ y1
            have hz3 := (g3.cell (p := ⟨zb, zo + i, none⟩) hzb3).trans hzr
            have y3 := (g3.cell (p := ⟨lb, lo + 2 * i, none⟩) hlb3).trans y1
            have hws : w.heap.size < wr.heap.size := World.block_lt_of_cell? wr ⟨w.heap.size, 2, none⟩ s2
            have s3 := (g3.cell (p := ⟨w.heap.size, 2, none⟩) hws).trans s2
            have hzb4 : zb < w3.heap.size := Nat.lt_of_lt_of_le hzb3 g3.size
            have hlb4 : lb < w3.heap.size := Nat.lt_of_lt_of_le hlb3 g3.size
            clear y1 y2 hzr s0 s1 s2 HFW HUF hZ g3
            have c1 : ¬ (m : Int) < 0 := by omega
            have c2 : -(m : Int) < 0 := by omega
            have c3 : IntKind.i64.wrap (- -(m : Int)) = (m : Int) := by rw [Int.neg_neg]; exact IntWalk.i64_in _ (by omega)
            have c4 : IntKind.i64.wrap (m : Int) = (m : Int) := IntWalk.i64_in _ (by omega)
            have c5 : - -(m : Int) = (m : Int) := Int.neg_neg _
            have HUB : Hid (∀ k, k < m → upZ z m / ((256 ^ k : Nat) : Int) % 256 = (byteZ z k : Nat)) := Lib.hid (fun k hk => upZ_byte z m k hk)
            have HU0 := hU.1
            by_cases hn : z < 0
            · have hup : upZ z m = z + ((256 ^ m : Nat) : Int) := by unfold upZ; rw [if_pos hn]
              have HPm := fun w => HPW w m hm.2
              have hUle : upZ z m < 4294967296 := by omega
              generalize 256 ^ m = q at *
              have c6 : IntKind.i64.wrap (z + (q : Int)) = upZ z m := by rw [hup]; exact IntWalk.i64_in _ (by omega)
              clear hup hU
              generalize upZ z m = U at *
              rcases hZp with rfl | rfl
              all_goals
                go_upto_region 18 with (go_at_call 53; refine (HPm _).out.mono ?_; rintro e w4 ⟨rfl, rfl⟩)
                clear c1 c2 c3 c4 c5 hz3 s3
                have OW3 := Lib.hid (hO.out.grew G3.out)
                go_wp2_with fail
                go_loopg [9, 10] m (fun kx s t wi => ∃ j : Nat, j + kx = m ∧ s = .int .i64 (U / ((256 ^ j : Nat) : Int)) ∧ t = .int .i64 j ∧ Hid (Own w1.heap.size 5 .u8 wi (.slice (some ⟨w1.heap.size, 0, none⟩) n n) (putLE S p z j)) ∧ Hid (Far (fun x => x = w1.heap.size) w3 wi))
                case atStart => exact ⟨0, by omega, by simp, rfl, OW3, Lib.hid (Far.refl _ _)⟩
                case round =>
                  obtain ⟨j, hj, rfl, rfl, hOj, hFj⟩ := hrel
                  by_cases hlj : j < m
                  · have y4 := (hFj.out.cell (p := ⟨lb, lo + 2 * i, none⟩) hlb4 hlbn).trans y3
                    have hplj := putLE_length S p z j
                    obtain ⟨hx, hfr⟩ := hOj.out.cellR (by omega) (p + j) (by omega)
                    have hq := HUB.out j hlj
                    have hd := Lib.hid (div_step U j HU0)
                    have hq0 : 0 ≤ U / ((256 ^ j : Nat) : Int) := Int.ediv_nonneg HU0 (Int.natCast_nonneg _)
                    have hq1 : 0 ≤ U / ((256 ^ (j + 1) : Nat) : Int) := Int.ediv_nonneg HU0 (Int.natCast_nonneg _)
                    have hq2 : U / ((256 ^ (j + 1) : Nat) : Int) ≤ U := Int.ediv_le_self _ HU0
                    generalize U / ((256 ^ j : Nat) : Int) = Y at *
                    generalize hY2 : U / ((256 ^ (j + 1) : Nat) : Int) = Y2 at *
                    have HY2 := Lib.hid hY2
                    have bb := byteZ_lt z j
                    have hput : Hid (putLE S p z (j + 1) = (putLE S p z j).set (p + j) (byteZ z j)) := Lib.hid rfl
                    generalize byteZ z j = B at *
                    have t1 : Y.tmod 256 = (B : Nat) := by rw [Int.tmod_eq_emod_of_nonneg hq0]; exact hq
                    have t2 : Y.tdiv 256 = Y2 := hd.out
                    have t3 : wrap64 Y2 = Y2 := IntWalk.wrap64_in _ (by omega)
                    have e0 : IntKind.i64.wrap ((p : Int) + (j : Int)) = ((p + j : Nat) : Int) := by rw [IntWalk.i64_in _ (by omega)]; omega
                    have b1 : (0 : Int) ≤ (p : Int) + j := by omega
                    have b2 : (p : Int) + j < n := by omega
                    have e3 : IntKind.u8.wrap (B : Int) = (B : Int) := IntWalk.u8_in _ (by omega)
                    have e4 : (B : Int) % 256 = (B : Int) := by omega
                    clear hd hY2 hq
                    go_wp2_with fail
                    have O2 := hOj.out.set (p + j) B (by omega)
                    have F2 := hFj.out.setCell (p := ⟨w1.heap.size, p + j, none⟩) rfl (.int .u8 (B : Nat))
                    rw [← hput.out] at O2
                    generalize wr.setCell ⟨w1.heap.size, p + j, none⟩ (.int .u8 (B : Nat)) = V4 at *
                    have O3 := Lib.hid O2
                    have F3 := Lib.hid F2
                    clear O2 F2 hx hfr
                    go_roundg (m - (j + 1))
                    case measure => omega
                    case rel => exact ⟨j + 1, by omega, by rw [HY2.out], by go_num, O3, F3⟩
                  · obtain rfl : j = m := by omega
                    rw [← hnx.out] at hOj
                    have F9 := Lib.hid ((hFa.out.trans (Far.of_grew G3.out)).trans hFj.out)
                    go_wp2_with fail
                    go_roundg (zs.length - (i + 1))
                    case measure => omega
                    case rel => exact ⟨i + 1, by omega, by go_num, hOj, hfn, F9⟩
            · have hup : upZ z m = z := by unfold upZ; rw [if_neg hn]
              have hUle : upZ z m < 4294967296 := by omega
              rw [← hup] at hz3 hn
              clear hup hU
              generalize upZ z m = U at *
              rcases hZp with rfl | rfl
              all_goals
                go_upto_region 18 with fail
                clear c1 c2 c3 c4 c5 hz3 s3
                have OW3 := Lib.hid (hO.out.grew G3.out)
                go_wp2_with fail
                go_loopg [9, 10] m (fun kx s t wi => ∃ j : Nat, j + kx = m ∧ s = .int .i64 (U / ((256 ^ j : Nat) : Int)) ∧ t = .int .i64 j ∧ Hid (Own w1.heap.size 5 .u8 wi (.slice (some ⟨w1.heap.size, 0, none⟩) n n) (putLE S p z j)) ∧ Hid (Far (fun x => x = w1.heap.size) w3 wi))
                case atStart => exact ⟨0, by omega, by simp, rfl, OW3, Lib.hid (Far.refl _ _)⟩
                case round =>
                  obtain ⟨j, hj, rfl, rfl, hOj, hFj⟩ := hrel
                  by_cases hlj : j < m
                  · have y4 := (hFj.out.cell (p := ⟨lb, lo + 2 * i, none⟩) hlb4 hlbn).trans y3
                    have hplj := putLE_length S p z j
                    obtain ⟨hx, hfr⟩ := hOj.out.cellR (by omega) (p + j) (by omega)
                    have hq := HUB.out j hlj
                    have hd := Lib.hid (div_step U j HU0)
                    have hq0 : 0 ≤ U / ((256 ^ j : Nat) : Int) := Int.ediv_nonneg HU0 (Int.natCast_nonneg _)
                    have hq1 : 0 ≤ U / ((256 ^ (j + 1) : Nat) : Int) := Int.ediv_nonneg HU0 (Int.natCast_nonneg _)
                    have hq2 : U / ((256 ^ (j + 1) : Nat) : Int) ≤ U := Int.ediv_le_self _ HU0
                    generalize U / ((256 ^ j : Nat) : Int) = Y at *
                    generalize hY2 : U / ((256 ^ (j + 1) : Nat) : Int) = Y2 at *
                    have HY2 := Lib.hid hY2
                    have bb := byteZ_lt z j
                    have hput : Hid (putLE S p z (j + 1) = (putLE S p z j).set (p + j) (byteZ z j)) := Lib.hid rfl
                    generalize byteZ z j = B at *
                    have t1 : Y.tmod 256 = (B : Nat) := by rw [Int.tmod_eq_emod_of_nonneg hq0]; exact hq
                    have t2 : Y.tdiv 256 = Y2 := hd.out
                    have t3 : wrap64 Y2 = Y2 := IntWalk.wrap64_in _ (by omega)
                    have e0 : IntKind.i64.wrap ((p : Int) + (j : Int)) = ((p + j : Nat) : Int) := by rw [IntWalk.i64_in _ (by omega)]; omega
                    have b1 : (0 : Int) ≤ (p : Int) + j := by omega
                    have b2 : (p : Int) + j < n := by omega
                    have e3 : IntKind.u8.wrap (B : Int) = (B : Int) := IntWalk.u8_in _ (by omega)
                    have e4 : (B : Int) % 256 = (B : Int) := by omega
                    clear hd hY2 hq
                    go_wp2_with fail
                    have O2 := hOj.out.set (p + j) B (by omega)
                    have F2 := hFj.out.setCell (p := ⟨w1.heap.size, p + j, none⟩) rfl (.int .u8 (B : Nat))
                    rw [← hput.out] at O2
                    generalize wr.setCell ⟨w1.heap.size, p + j, none⟩ (.int .u8 (B : Nat)) = V4 at *
                    have O3 := Lib.hid O2
                    have F3 := Lib.hid F2
                    clear O2 F2 hx hfr
                    go_roundg (m - (j + 1))
                    case measure => omega
                    case rel => exact ⟨j + 1, by omega, by rw [HY2.out], by go_num, O3, F3⟩
                  · obtain rfl : j = m := by omega
                    rw [← hnx.out] at hOj
                    have F9 := Lib.hid ((hFa.out.trans (Far.of_grew G3.out)).trans hFj.out)
                    go_wp2_with fail
                    go_roundg (zs.length - (i + 1))
                    case measure => omega
                    case rel => exact ⟨i + 1, by omega, by go_num, hOj, hfn, F9⟩
        · obtain rfl : i = zs.length := by omega
          have HPO : Hid (r = (payTo l zs n zs.length, 0)) := Lib.hid (by rw [HP'.out, if_pos hft.out])
          have OL := Lib.hid hO.out.lt
          have OR := Lib.hid hO.out.row
          have GR := Lib.hid (hFa.out.grew GA.out (fun x h => by have : x = w1.heap.size := h; omega))
          clear hO hFa HP' hft HFI HLV
          go_wp2_with fail
          go_ret2
          rw [HPO.out]
          exact ⟨_, rfl, OR.out, fun _ x hx => by have := OL.out x hx; omega, GR.out⟩
-- PAY]
end Go.Proofs.YtcdmbnbanopioaaGreatDoor

namespace Go.Proofs.YtcdmbnbanopioaaGreatDoor
open Go.RowKit
set_option linter.unusedVariables false

theorem own_litR {B : Nat} (w : World) (E : TypeId) (cs : Array Value) (ns : List Nat) (n : Nat) (hB : B ≤ w.heap.size) (hc : cs = (cellsOf .u8 ns).toArray) (hn : n = ns.length) (hm : ns.length ≤ maxLen) : Own B E .u8 (w.alloc (.cells cs E)) (.slice (some ⟨w.heap.size, 0, none⟩) n n) ns := by
  subst hc hn
  exact Own.lit w .u8 E B hB ns hm
theorem Grew.pushR {w0 w w' : World} {B : Nat} {E : TypeId} {k : IntKind} {v : Value} {ns : List Nat} (g : Grew w0 w) (h : Own B E k w v ns) (hB : w0.heap.size ≤ B) (hg : w.grownBy w' v.ownBlock) : Grew w0 w' :=
  Below.grown g hg g.size (fun b hb => Nat.le_trans hB (World.ownsRow.lt h b hb).1)
theorem ubxPay_lenR (c : Nat) (zs : List Int) : (ubxPay c zs).1.length ≤ 92 ∧ Bytes (ubxPay c zs).1 := by
  have hok := ubx_layOk c
  have hev := hok.even
  unfold ubxPay
  split
  · exact ⟨by simp, Bytes.of_mem (by simp)⟩
  · split
    · exact ⟨by simp, Bytes.of_mem (by simp)⟩
    · rename_i h1 h2
      split
      · exact ⟨by show (payTo _ _ _ _).length ≤ 92; rw [payTo_length]; exact hev.2.2, payTo_bytes hok _ (by omega)⟩
      · exact ⟨by simp, Bytes.of_mem (by simp)⟩
theorem Bytes.appR {a b : List Nat} (ha : Bytes a) (hb : Bytes b) : Bytes (a ++ b) := fun i => by
  by_cases h : i < a.length
  · rw [wd_append_left h]; exact ha i
  · obtain ⟨j, rfl⟩ : ∃ j, i = a.length + j := ⟨i - a.length, by omega⟩
    rw [wd_append_right]; exact hb j
theorem body_bytesR {c : Nat} {L : List Nat} (hc : c < 65536) (hl : L.length ≤ 92) (hB : Bytes L) : Bytes (ubxBody c L) :=
  Bytes.appR (Bytes.of_mem (fun x hx => by simp at hx; omega)) hB
-- [ENC
set_option maxRecDepth 100000 in
set_option maxHeartbeats 4000000 in
theorem ref12_Encode (a b : Nat) (v : Value) (zs : List Int) (w : World) (ha : a < 256) (hb : b < 256) (hr : RowZ .i64 w v zs) (hz : ∀ i, -9223372036854775808 ≤ zi zs i ∧ zi zs i ≤ 9223372036854775807) (hl : zs.length ≤ 100000) :
    Calls Tryz.prog 13 #[.agg #[.int .u8 (a : Nat), .int .u8 (b : Nat), v]] w (PayR (ubxEnc (a * 256 + b) zs) w) := by
  have HPAY := fun w' (g : Grew w w') => ref12_Payload a b v zs w' ha hb (hr.grew g) hz hl
  have henc : ubxEnc (a * 256 + b) zs = if (ubxPay (a * 256 + b) zs).2 = 0 then (ubxFrame (a * 256 + b) (ubxPay (a * 256 + b) zs).1, 0) else ([], (ubxPay (a * 256 + b) zs).2) := rfl
  obtain ⟨hL, hBL⟩ := ubxPay_lenR (a * 256 + b) zs
  have hbb := body_bytesR (c := a * 256 + b) (by omega) hL hBL
  generalize ubxEnc (a * 256 + b) zs = r at *
  unfold PayR at HPAY
  generalize (ubxPay (a * 256 + b) zs).2 = er at *
  generalize (ubxPay (a * 256 + b) zs).1 = L at *
  replace HPAY := fun w' g => Lib.hid (HPAY w' g)
  obtain ⟨ZA, zc, rfl, hzc⟩ := hr.form
  by_cases he : er = 0
  · subst he
    rw [if_pos rfl] at henc
    have hbd : [a, b, L.length % 256, L.length / 256] ++ L = ubxBody (a * 256 + b) L := by
      unfold ubxBody
      rw [show (a * 256 + b) / 256 = a by omega, show (a * 256 + b) % 256 = b by omega]
    have hbl : (ubxBody (a * 256 + b) L).length ≤ 100000 := by unfold ubxBody; simp; omega
    have hbl2 : (ubxBody (a * 256 + b) L).length ≤ 100 := by unfold ubxBody; simp; omega
    have HFL := fun v' w' (h : Row .u8 w' v' (ubxBody (a * 256 + b) L)) => Lib.hid (ref07_Fletcher v' _ w' h hbb hbl)
    have HE : Hid (r = ([181, 98] ++ ubxBody (a * 256 + b) L ++ [fletA (ubxBody (a * 256 + b) L), fletB (ubxBody (a * 256 + b) L)], 0)) := Lib.hid henc
    have HBD := Lib.hid hbd
    have HBL := Lib.hid hbl2
    clear henc hbd hbl hbb hbl2
    generalize ubxBody (a * 256 + b) L = u at *
    have m0 : (L.length : Int).tmod 256 = ((L.length % 256 : Nat) : Int) := rfl
    have m1 : (L.length : Int).tdiv 256 = ((L.length / 256 : Nat) : Int) := rfl
    have hx1 : L.length % 256 < 256 := by omega
    have hx2 : L.length / 256 < 256 := by omega
    generalize L.length % 256 = M1 at *
    generalize L.length / 256 = M2 at *
    have m3 : IntKind.u8.wrap (M1 : Int) = (M1 : Int) := IntWalk.u8_in _ (by omega)
    have m4 : IntKind.u8.wrap (M2 : Int) = (M2 : Int) := IntWalk.u8_in _ (by omega)
    have m5 : (M1 : Int) % 256 = (M1 : Int) := by omega
    have m6 : (M2 : Int) % 256 = (M2 : Int) := by omega
    have m7 : IntKind.i64.wrap (M2 : Int) = (M2 : Int) := IntWalk.i64_in _ (by omega)
    have m8 : wrap64 (M2 : Int) = (M2 : Int) := IntWalk.wrap64_in _ (by omega)
    go_enter Tryz.func13, Tryz.ntmps13
    go_upto_region 1 with fail
    obtain ⟨W, hW, g0, T0⟩ := three_new w (.int .u8 (a : Nat)) (.int .u8 (b : Nat)) (.slice ZA zs.length zc) 37
    rw [hW]
    clear hW
    have T1 := Lib.hid T0
    obtain ⟨_, s0, s1, s2, _, _, _⟩ := T0
    go_upto_region 4 with (go_at_call 30; refine (HPAY _ g0).out.mono ?_; rintro e w1 ⟨pv, rfl, hrow, hpo, g1⟩)
    obtain ⟨PA, pc, rfl, hpc⟩ := hrow.form
    obtain ⟨_, s0, s1, s2, _, _, _⟩ := T1.out.grew g1
    have HO1 := own_litR (B := w1.heap.size) w1 5 #[.int .u8 (a : Nat), .int .u8 (b : Nat), .int .u8 (M1 : Nat), .int .u8 (M2 : Nat)] [a, b, M1, M2] 4 (Nat.le_refl _) rfl rfl (by simp [maxLen])
    have HR1 := hrow.grew ((Grew.refl w1).alloc (.cells #[.int .u8 (a : Nat), .int .u8 (b : Nat), .int .u8 (M1 : Nat), .int .u8 (M2 : Nat)] 5))
    go_upto_region 6 with (refine wpList_joinN _ rfl _ _ 25 rfl w1.heap.size 5 .u8 1 Tryz.underlying25 infoU8 (.slice (some ⟨w1.heap.size, 0, none⟩) 4 4) _ rfl HO1 _ L rfl HR1 (by simp only [List.length_cons, List.length_nil]; omega) (by decide) (by simp) ?_; intro v2 w2 hown hgrow hnil)
    have G2 : Grew w1 w2 := Grew.pushR ((Grew.refl w1).alloc _) HO1 (Nat.le_refl _) hgrow
    rw [HBD.out] at hown
    have hrw := hown.row
    have HFL2 := HFL _ _ hrw
    have HOW := Lib.hid hown
    obtain ⟨BA, bc, rfl, _⟩ := hrw.form
    clear hown hgrow hnil HO1 HR1 m0 m1 m3 m4 m5 m6 m7 m8 HFL hrw
    generalize fletA u = fa at *
    generalize fletB u = fb at *
    go_upto_region 7 with (go_at_call 31; refine HFL2.out.mono ?_; rintro e w3 ⟨rfl, hw3⟩; subst hw3)
    have HO2 := own_litR (B := w2.heap.size) w2 5 #[.int .u8 181, .int .u8 98] [181, 98] 2 (Nat.le_refl _) rfl rfl (by simp [maxLen])
    have HR2 := HOW.out.row.grew ((Grew.refl w2).alloc (.cells #[.int .u8 181, .int .u8 98] 5))
    have HL2 := fun w' => (own_litR (B := 0) w' 5 #[.int .u8 (fa : Nat), .int .u8 (fb : Nat)] [fa, fb] 2 (Nat.zero_le _) rfl rfl (by simp [maxLen])).row
    have hbl := HBL.out
    have hlen2 : (([181, 98] ++ u).length + 2) * 1 ≤ 140737488355328 := by rw [List.length_append]; simp only [List.length_cons, List.length_nil]; omega
    clear HFL2 HOW hbl
    go_wp2_with (first
      | (refine wpList_joinN _ rfl _ _ 25 rfl w2.heap.size 5 .u8 1 Tryz.underlying25 infoU8 (.slice (some ⟨w2.heap.size, 0, none⟩) 2 2) _ rfl HO2 _ u rfl HR2 (by have := HBL.out; simp only [List.length_cons, List.length_nil]; omega) (by decide) (by simp) ?_; intro v5 w5 hown5 hgrow5 hnil5; have G5 : Grew w2 w5 := Grew.pushR ((Grew.refl w2).alloc _) HO2 (Nat.le_refl _) hgrow5; have HL5 := HL2 w5)
      | (refine wpList_joinN _ rfl _ _ 25 rfl w2.heap.size 5 .u8 1 Tryz.underlying25 infoU8 v5 _ rfl (hown5.alloc _) _ [fa, fb] rfl HL5 hlen2 (by decide) (by have := G5.size; simp; omega) ?_; intro v6 w6 hown6 hgrow6 hnil6))
    go_ret2
    rw [HE.out]
    exact ⟨v6, rfl, hown6.row, fun _ x hx => by have h1 := hown6.lt x hx; have h2 := ((g0.trans g1).trans G2).size; omega, ((g0.trans g1).trans G2).trans (Grew.pushR (G5.alloc _) (hown5.alloc _) (Nat.le_refl _) hgrow6)⟩
  · have henc' := Lib.hid (henc.trans (if_neg he))
    clear henc
    have he0 : ¬ (er : Int) = 0 := by omega
    go_enter Tryz.func13, Tryz.ntmps13
    go_upto_region 1 with fail
    obtain ⟨W, hW, g0, T0⟩ := three_new w (.int .u8 (a : Nat)) (.int .u8 (b : Nat)) (.slice ZA zs.length zc) 37
    rw [hW]
    clear hW
    obtain ⟨_, s0, s1, s2, _, _, _⟩ := T0
    go_wp2_with (go_at_call 30; refine (HPAY _ g0).out.mono ?_; rintro e w1 ⟨pv, rfl, hrow, hpo, g1⟩)
    go_ret2
    rw [henc'.out]
    exact payR_no (g0.trans g1)
-- ENC]
end Go.Proofs.YtcdmbnbanopioaaGreatDoor

namespace Go.Proofs.YtcdmbnbanopioaaGreatDoor
open Go.RowKit
set_option linter.unusedVariables false

theorem own_litS {B : Nat} (w : World) (E : TypeId) (cs : Array Value) (ns : List Nat) (n : Nat) (hB : B ≤ w.heap.size) (hc : cs = (cellsOf .u8 ns).toArray) (hn : n = ns.length) (hm : ns.length ≤ maxLen) : Own B E .u8 (w.alloc (.cells cs E)) (.slice (some ⟨w.heap.size, 0, none⟩) n n) ns := by
  subst hc hn
  exact Own.lit w .u8 E B hB ns hm
theorem Grew.pushT {w0 w w' : World} {B : Nat} {E : TypeId} {k : IntKind} {v : Value} {ns : List Nat} (g : Grew w0 w) (h : Own B E k w v ns) (hB : w0.heap.size ≤ B) (hg : w.grownBy w' v.ownBlock) : Grew w0 w' :=
  Below.grown g hg g.size (fun b hb => Nat.le_trans hB (World.ownsRow.lt h b hb).1)
theorem srfPay_len {m : Nat} (hm : m < 256) (zs : List Int) : (srfPay m zs).1.length ≤ 188 ∧ Bytes (srfPay m zs).1 := by
  have hok := srf_layOk m
  have hev := hok.even
  unfold srfPay
  split
  · exact ⟨by simp, Bytes.of_mem (by simp)⟩
  · split
    · exact ⟨by simp, Bytes.of_mem (by simp)⟩
    · rename_i h1 h2
      split
      · exact ⟨by show (bpayTo _ _ _ _ _).length ≤ 188; rw [bpayTo_length]; exact hev.2.2, bpayTo_bytes hm hok _ (by omega)⟩
      · exact ⟨by simp, Bytes.of_mem (by simp)⟩
theorem fif_lt (P : List Nat) : fifOf P < 32768 := by unfold fifOf; omega
-- [ENC
set_option maxRecDepth 100000 in
set_option maxHeartbeats 4000000 in
theorem ref13_Encode (a : Nat) (v : Value) (zs : List Int) (w : World) (ha : a < 256) (hr : RowZ .i64 w v zs) (hz : ∀ i, -9223372036854775808 ≤ zi zs i ∧ zi zs i ≤ 9223372036854775807) (hl : zs.length ≤ 100000) :
    Calls Tryz.prog 14 #[.agg #[.int .u8 (a : Nat), v]] w (PayR (srfEnc a zs) w) := by
  have HPAY := fun w' (g : Grew w w') => ref13_Payload a v zs w' ha (hr.grew g) hz hl
  have henc : srfEnc a zs = if (srfPay a zs).2 = 0 then (srfFrame (srfPay a zs).1, 0) else ([], (srfPay a zs).2) := rfl
  obtain ⟨hL, hBL⟩ := srfPay_len ha zs
  generalize srfEnc a zs = r at *
  unfold PayR at HPAY
  generalize (srfPay a zs).2 = er at *
  generalize (srfPay a zs).1 = L at *
  replace HPAY := fun w' g => Lib.hid (HPAY w' g)
  obtain ⟨ZA, zc, rfl, hzc⟩ := hr.form
  by_cases he : er = 0
  · subst he
    rw [if_pos rfl] at henc
    have HE : Hid (r = ([160, 162, L.length / 256, L.length % 256] ++ L ++ [fifOf L / 256, fifOf L % 256, 176, 179], 0)) := Lib.hid henc
    have HFI := fun v' w' (h : Row .u8 w' v' L) => Lib.hid (ref07_Fifteen v' L w' h hBL (by omega))
    have hf := fif_lt L
    clear henc hBL
    generalize fifOf L = f at *
    have m0 : (L.length : Int).tmod 256 = ((L.length % 256 : Nat) : Int) := rfl
    have m1 : (L.length : Int).tdiv 256 = ((L.length / 256 : Nat) : Int) := rfl
    have p0 : (f : Int).tmod 256 = ((f % 256 : Nat) : Int) := rfl
    have p1 : (f : Int).tdiv 256 = ((f / 256 : Nat) : Int) := rfl
    have hx1 : L.length % 256 < 256 := by omega
    have hx2 : L.length / 256 < 256 := by omega
    have hy1 : f % 256 < 256 := by omega
    have hy2 : f / 256 < 256 := by omega
    generalize L.length % 256 = M1 at *
    generalize L.length / 256 = M2 at *
    generalize f % 256 = F1 at *
    generalize f / 256 = F2 at *
    have m3 : IntKind.u8.wrap (M1 : Int) = (M1 : Int) := IntWalk.u8_in _ (by omega)
    have m4 : IntKind.u8.wrap (M2 : Int) = (M2 : Int) := IntWalk.u8_in _ (by omega)
    have m5 : (M1 : Int) % 256 = (M1 : Int) := by omega
    have m6 : (M2 : Int) % 256 = (M2 : Int) := by omega
    have m7 : IntKind.i64.wrap (M2 : Int) = (M2 : Int) := IntWalk.i64_in _ (by omega)
    have m8 : wrap64 (M2 : Int) = (M2 : Int) := IntWalk.wrap64_in _ (by omega)
    have q3 : IntKind.u8.wrap (F1 : Int) = (F1 : Int) := IntWalk.u8_in _ (by omega)
    have q4 : IntKind.u8.wrap (F2 : Int) = (F2 : Int) := IntWalk.u8_in _ (by omega)
    have q5 : (F1 : Int) % 256 = (F1 : Int) := by omega
    have q6 : (F2 : Int) % 256 = (F2 : Int) := by omega
    have q7 : IntKind.i64.wrap (F2 : Int) = (F2 : Int) := IntWalk.i64_in _ (by omega)
    have q8 : wrap64 (F2 : Int) = (F2 : Int) := IntWalk.wrap64_in _ (by omega)
    have q9 : IntKind.i64.wrap (f : Int) = (f : Int) := IntWalk.i64_in _ (by omega)
    go_enter Tryz.func14, Tryz.ntmps14
    go_upto_region 1 with fail
    obtain ⟨W, hW, g0, T0⟩ := twoC_new w (.int .u8 (a : Nat)) (.slice ZA zs.length zc) 40
    rw [hW]
    clear hW
    obtain ⟨_, s0, s1, _, _⟩ := T0
    go_upto_region 4 with (go_at_call 32; refine (HPAY _ g0).out.mono ?_; rintro e w1 ⟨pv, rfl, hrow, hpo, g1⟩)
    obtain ⟨PA, pc, rfl, hpc⟩ := hrow.form
    have HC := HFI _ _ hrow
    go_upto_region 5 with (go_at_call 33; refine HC.out.mono ?_; rintro e w2 ⟨rfl, hw2⟩; subst hw2)
    have HO1 := own_litS (B := w1.heap.size) w1 5 #[.int .u8 160, .int .u8 162, .int .u8 (M2 : Nat), .int .u8 (M1 : Nat)] [160, 162, M2, M1] 4 (Nat.le_refl _) rfl rfl (by simp [maxLen])
    have HR1 := hrow.grew ((Grew.refl w1).alloc (.cells #[.int .u8 160, .int .u8 162, .int .u8 (M2 : Nat), .int .u8 (M1 : Nat)] 5))
    have HL2 := fun w' => (own_litS (B := 0) w' 5 #[.int .u8 (F2 : Nat), .int .u8 (F1 : Nat), .int .u8 176, .int .u8 179] [F2, F1, 176, 179] 4 (Nat.zero_le _) rfl rfl (by simp [maxLen])).row
    go_upto_region 7 with (refine wpList_joinN _ rfl _ _ 25 rfl w1.heap.size 5 .u8 1 Tryz.underlying25 infoU8 (.slice (some ⟨w1.heap.size, 0, none⟩) 4 4) _ rfl HO1 _ L rfl HR1 (by simp only [List.length_cons, List.length_nil]; omega) (by decide) (by simp) ?_; intro v2 w2 hown hgrow hnil)
    have G2 : Grew w1 w2 := Grew.pushT ((Grew.refl w1).alloc _) HO1 (Nat.le_refl _) hgrow
    have HL5 := HL2 w2
    have hlen2 : (([160, 162, M2, M1] ++ L).length + 4) * 1 ≤ 140737488355328 := by rw [List.length_append]; simp only [List.length_cons, List.length_nil]; omega
    clear hgrow hnil HO1 HR1 HL2 HC
    go_wp2_with (refine wpList_joinN _ rfl _ _ 25 rfl w1.heap.size 5 .u8 1 Tryz.underlying25 infoU8 v2 _ rfl (hown.alloc _) _ [F2, F1, 176, 179] rfl HL5 hlen2 (by decide) (by have := G2.size; simp; omega) ?_; intro v6 w6 hown6 hgrow6 hnil6)
    go_ret2
    rw [HE.out]
    exact ⟨v6, rfl, hown6.row, fun _ x hx => by have h1 := hown6.lt x hx; have h2 := (g0.trans g1).size; omega, (g0.trans g1).trans (Grew.pushT (G2.alloc _) (hown.alloc _) (Nat.le_refl _) hgrow6)⟩
  · have henc' := Lib.hid (henc.trans (if_neg he))
    clear henc
    have he0 : ¬ (er : Int) = 0 := by omega
    go_enter Tryz.func14, Tryz.ntmps14
    go_upto_region 1 with fail
    obtain ⟨W, hW, g0, T0⟩ := twoC_new w (.int .u8 (a : Nat)) (.slice ZA zs.length zc) 40
    rw [hW]
    clear hW
    obtain ⟨_, s0, s1, _, _⟩ := T0
    go_wp2_with (go_at_call 32; refine (HPAY _ g0).out.mono ?_; rintro e w1 ⟨pv, rfl, hrow, hpo, g1⟩)
    go_ret2
    rw [henc'.out]
    exact payR_no (g0.trans g1)
-- ENC]
end Go.Proofs.YtcdmbnbanopioaaGreatDoor

namespace Go.Proofs.YtcdmbnbanopioaaGreatDoor
open Go.RowKit
set_option linter.unusedVariables false

/-- The bytes of the plans' commands. -/
def zdaL : List Nat := sentRow (rateB (kindText 5) 1)
def rmcL : List Nat := sentRow (rateB (kindText 1) 1)
def askL : List Nat := sentRow (askB (kindNum 5) 1)
def ub1L : List Nat := (ubxEnc (6 * 256 + 8) [1000, 1, 1]).1
def ub2L : List Nat := (ubxEnc (6 * 256 + 1) [1, 7, 1]).1
def ub3L : List Nat := (ubxEnc (6 * 256 + 1) [13, 1, 1]).1
def sfL : List Nat := (srfEnc 166 [0, 52, 1]).1
def planOf (k : Nat) : List Cmd :=
  if k = 1 then [⟨zdaL, 0, 0, 0⟩, ⟨rmcL, 0, 0, 0⟩, ⟨askL, 0, 0, 0⟩]
  else if k = 2 then [⟨ub1L, 1, 6, 8⟩, ⟨ub2L, 1, 6, 1⟩, ⟨ub3L, 1, 6, 1⟩]
  else if k = 3 then [⟨sfL, 2, 0, 166⟩]
  else []
theorem plan_one : planOf 1 = [⟨zdaL, 0, 0, 0⟩, ⟨rmcL, 0, 0, 0⟩, ⟨askL, 0, 0, 0⟩] := rfl
theorem plan_two : planOf 2 = [⟨ub1L, 1, 6, 8⟩, ⟨ub2L, 1, 6, 1⟩, ⟨ub3L, 1, 6, 1⟩] := rfl
theorem plan_three : planOf 3 = [⟨sfL, 2, 0, 166⟩] := rfl
theorem plan_none {k : Nat} (h1 : k ≠ 1) (h2 : k ≠ 2) (h3 : k ≠ 3) : planOf k = [] := by
  unfold planOf
  rw [if_neg h1, if_neg h2, if_neg h3]
theorem plan_lens : (0 < zdaL.length ∧ zdaL.length ≤ 1040) ∧ (0 < rmcL.length ∧ rmcL.length ≤ 1040) ∧ (0 < askL.length ∧ askL.length ≤ 1040) ∧ (0 < ub1L.length ∧ ub1L.length ≤ 1040) ∧ (0 < ub2L.length ∧ ub2L.length ≤ 1040) ∧ (0 < ub3L.length ∧ ub3L.length ≤ 1040) ∧ (0 < sfL.length ∧ sfL.length ≤ 1040) := by
  refine ⟨?_, ?_, ?_, ?_, ?_, ?_, ?_⟩ <;> exact of_decide_eq_true (by kernel_rfl)
theorem plan_may (k : Nat) : (∀ c ∈ planOf k, mayCmd c) ∧ (planOf k).length ≤ 3 := by
  obtain ⟨a1, a2, a3, a4, a5, a6, a7⟩ := plan_lens
  by_cases h1 : k = 1
  · subst h1
    rw [plan_one]
    refine ⟨fun c hc => ?_, by decide⟩
    simp only [List.mem_cons, List.not_mem_nil, or_false] at hc
    rcases hc with rfl | rfl | rfl
    · exact ⟨a1.1, a1.2, (by decide : 0 < 3)⟩
    · exact ⟨a2.1, a2.2, (by decide : 0 < 3)⟩
    · exact ⟨a3.1, a3.2, (by decide : 0 < 3)⟩
  · by_cases h2 : k = 2
    · subst h2
      rw [plan_two]
      refine ⟨fun c hc => ?_, by decide⟩
      simp only [List.mem_cons, List.not_mem_nil, or_false] at hc
      rcases hc with rfl | rfl | rfl
      · exact ⟨a4.1, a4.2, (by decide : 1 < 3)⟩
      · exact ⟨a5.1, a5.2, (by decide : 1 < 3)⟩
      · exact ⟨a6.1, a6.2, (by decide : 1 < 3)⟩
    · by_cases h3 : k = 3
      · subst h3
        rw [plan_three]
        refine ⟨fun c hc => ?_, by decide⟩
        simp only [List.mem_cons, List.not_mem_nil, or_false] at hc
        subst hc
        exact ⟨a7.1, a7.2, (by decide : 2 < 3)⟩
      · rw [plan_none h1 h2 h3]
        exact ⟨fun c hc => by simp at hc, by decide⟩
def Any : Nat → Prop := fun _ => True
/-- Cells side by side, of commands: a list of commands. -/
theorem cmds_of_cells {w : World} {v : Value} {cs : List Cmd} {vs : List Value} {n : Nat} (h : CellsAt w 4 v n (flatK cs vs)) (hl : vs.length = n ∧ cs.length = n) (hr : ∀ (i : Nat) (c : Cmd) (fv : Value), cs[i]? = some c → vs[i]? = some fv → Row .u8 w fv c.b) (hk : ∀ c ∈ cs, c.wait < 256 ∧ c.cls < 256 ∧ c.id < 256) : CmdsAt Any w v cs := by
  obtain ⟨_, A, c, e, hc, hrr⟩ := h
  refine ⟨A, c, by rw [hl.2]; exact e, by rw [hl.2]; exact hc, fun hn => ?_⟩
  obtain ⟨b, o, rfl, hb, hcell⟩ := hrr (by rw [← hl.2]; exact hn)
  refine ⟨b, o, rfl, fun i q hi => ?_⟩
  have hil := (List.getElem?_eq_some_iff.1 hi).1
  have hiv : i < vs.length := by rw [hl.1, ← hl.2]; exact hil
  have e2 := List.getElem?_eq_getElem hiv
  have hkq := hk q (List.mem_of_getElem? hi)
  have hg : ∀ j x, j < 4 → (cmdCells q vs[i])[j]? = some x → w.cell? ⟨b, o + i * 4 + j, none⟩ = some x := fun j x hj hx => by
    rw [Nat.add_assoc]
    exact hcell _ _ ((flatK_get cs vs i j q _ hi e2 hj).trans hx)
  exact ⟨vs[i], ⟨hb, hg 0 _ (by omega) rfl, hg 1 _ (by omega) rfl, hg 2 _ (by omega) rfl, hg 3 _ (by omega) rfl, hr i q _ hi e2, hkq.1, hkq.2.1, hkq.2.2⟩, fun _ _ _ => trivial⟩
theorem cells_lit (w : World) (E : TypeId) (n : Nat) (xs : List Value) (h : xs.length = n * 4) : CellsAt (w.alloc (.cells xs.toArray E)) 4 (.slice (some ⟨w.heap.size, 0, none⟩) n n) n xs := by
  refine ⟨h, _, n, rfl, Nat.le_refl _, fun _ => ⟨w.heap.size, 0, rfl, by simp, fun j x hj => ?_⟩⟩
  rw [World.cell?_alloc_new, Nat.zero_add]
  simpa using hj
theorem rows_three {w : World} {q1 q2 q3 : Cmd} {v1 v2 v3 : Value} (h1 : Row .u8 w v1 q1.b) (h2 : Row .u8 w v2 q2.b) (h3 : Row .u8 w v3 q3.b) : ∀ (i : Nat) (c : Cmd) (fv : Value), [q1, q2, q3][i]? = some c → [v1, v2, v3][i]? = some fv → Row .u8 w fv c.b := fun i c fv e1 e2 => by
  match i, e1, e2 with
  | 0, e1, e2 => cases e1; cases e2; exact h1
  | 1, e1, e2 => cases e1; cases e2; exact h2
  | 2, e1, e2 => cases e1; cases e2; exact h3
  | _ + 3, e1, _ => simp at e1
theorem rows_oneP {w : World} {q1 : Cmd} {v1 : Value} (h1 : Row .u8 w v1 q1.b) : ∀ (i : Nat) (c : Cmd) (fv : Value), [q1][i]? = some c → [v1][i]? = some fv → Row .u8 w fv c.b := fun i c fv e1 e2 => by
  match i, e1, e2 with
  | 0, e1, e2 => cases e1; cases e2; exact h1
  | _ + 1, e1, _ => simp at e1
theorem small_three {q1 q2 q3 : Cmd} (h1 : q1.wait < 256 ∧ q1.cls < 256 ∧ q1.id < 256) (h2 : q2.wait < 256 ∧ q2.cls < 256 ∧ q2.id < 256) (h3 : q3.wait < 256 ∧ q3.cls < 256 ∧ q3.id < 256) : ∀ c ∈ [q1, q2, q3], c.wait < 256 ∧ c.cls < 256 ∧ c.id < 256 := fun c hc => by
  simp only [List.mem_cons, List.not_mem_nil, or_false] at hc
  rcases hc with rfl | rfl | rfl
  · exact h1
  · exact h2
  · exact h3
/-- What a call that writes a command's bytes tells. -/
def WroteT (B : List Nat) (w : World) (e : Ending) (w' : World) : Prop := ∃ (A : Option Addr) (c : Nat) (er : Int), e = .returned (.tuple #[.slice A B.length c, .int .i64 er]) ∧ Row .u8 w' (.slice A B.length c) B ∧ Grew w w'
theorem wrote_of {B : List Nat} {w : World} {e : Ending} {w' : World} (er : Nat) (h : ∃ v, e = .returned (.tuple #[v, .int .i64 (er : Nat)]) ∧ Row .u8 w' v B ∧ Grew w w') : WroteT B w e w' := by
  obtain ⟨v, rfl, hr, g⟩ := h
  obtain ⟨A, c, rfl, _⟩ := hr.form
  exact ⟨A, c, _, rfl, hr, g⟩
theorem rowZ_three (w : World) (x y z : Int) (E : TypeId) : RowZ .i64 (w.alloc (.cells #[.int .i64 x, .int .i64 y, .int .i64 z] E)) (.slice (some ⟨w.heap.size, 0, none⟩) 3 3) [x, y, z] :=
  ⟨_, 3, rfl, Nat.le_refl _, fun _ => ⟨_, 0, rfl, by simp, fun i hi => by
    match i, hi with
    | 0, _ => simp [go_sem, zi]
    | 1, _ => simp [go_sem, zi]
    | 2, _ => simp [go_sem, zi]⟩⟩
/-- What a plan tells. -/
def PlanT (k : Nat) (w : World) (e : Ending) (w' : World) : Prop := ∃ v, e = .returned v ∧ CmdsAt Any w' v (planOf k) ∧ Grew w w'
-- [RATES
theorem ref_zda (w : World) : Calls Tryz.prog 11 #[.int .u8 5, .int .i64 1] w (WroteT zdaL w) := (ref11_Rate 5 1 w (by decide) (by decide)).mono (fun e w' h => wrote_of _ h)
theorem ref_rmc (w : World) : Calls Tryz.prog 11 #[.int .u8 1, .int .i64 1] w (WroteT rmcL w) := (ref11_Rate 1 1 w (by decide) (by decide)).mono (fun e w' h => wrote_of _ h)
theorem ref_ask (w : World) : Calls Tryz.prog 12 #[.int .u8 5, .int .i64 1] w (WroteT askL w) := (ref11_Ask 5 1 w (by decide) (by decide)).mono (fun e w' h => wrote_of _ h)
-- RATES]
theorem in_three (x y z : Int) (hx : -9223372036854775808 ≤ x ∧ x ≤ 9223372036854775807) (hy : -9223372036854775808 ≤ y ∧ y ≤ 9223372036854775807) (hz : -9223372036854775808 ≤ z ∧ z ≤ 9223372036854775807) : ∀ i, -9223372036854775808 ≤ zi [x, y, z] i ∧ zi [x, y, z] i ≤ 9223372036854775807 := fun i => by
  match i with
  | 0 => exact hx
  | 1 => exact hy
  | 2 => exact hz
  | n + 3 => show -9223372036854775808 ≤ (0 : Int) ∧ (0 : Int) ≤ 9223372036854775807; decide
theorem ref_ubx (b : Nat) (x y z : Int) (w : World) (hb : b < 256) (hx : -9223372036854775808 ≤ x ∧ x ≤ 9223372036854775807) (hy : -9223372036854775808 ≤ y ∧ y ≤ 9223372036854775807) (hz : -9223372036854775808 ≤ z ∧ z ≤ 9223372036854775807) :
    Calls Tryz.prog 13 #[.agg #[.int .u8 6, .int .u8 (b : Nat), .slice (some ⟨w.heap.size, 0, none⟩) 3 3]] (w.alloc (.cells #[.int .i64 x, .int .i64 y, .int .i64 z] 2)) (WroteT (ubxEnc (6 * 256 + b) [x, y, z]).1 w) :=
  (ref12_Encode 6 b _ [x, y, z] _ (by decide) hb (rowZ_three w x y z 2) (in_three x y z hx hy hz) (show 3 ≤ 100000 by decide)).mono (fun e w' ⟨v, h1, h2, _, h3⟩ => wrote_of _ ⟨v, h1, h2, ((Grew.refl w).alloc _).trans h3⟩)
theorem ref_ub1 (w : World) : Calls Tryz.prog 13 #[.agg #[.int .u8 6, .int .u8 8, .slice (some ⟨w.heap.size, 0, none⟩) 3 3]] (w.alloc (.cells #[.int .i64 1000, .int .i64 1, .int .i64 1] 2)) (WroteT ub1L w) := ref_ubx 8 1000 1 1 w (by decide) (by decide) (by decide) (by decide)
theorem ref_ub2 (w : World) : Calls Tryz.prog 13 #[.agg #[.int .u8 6, .int .u8 1, .slice (some ⟨w.heap.size, 0, none⟩) 3 3]] (w.alloc (.cells #[.int .i64 1, .int .i64 7, .int .i64 1] 2)) (WroteT ub2L w) := ref_ubx 1 1 7 1 w (by decide) (by decide) (by decide) (by decide)
theorem ref_ub3 (w : World) : Calls Tryz.prog 13 #[.agg #[.int .u8 6, .int .u8 1, .slice (some ⟨w.heap.size, 0, none⟩) 3 3]] (w.alloc (.cells #[.int .i64 13, .int .i64 1, .int .i64 1] 2)) (WroteT ub3L w) := ref_ubx 1 13 1 1 w (by decide) (by decide) (by decide) (by decide)
theorem ref_sirf (w : World) : Calls Tryz.prog 14 #[.agg #[.int .u8 166, .slice (some ⟨w.heap.size, 0, none⟩) 3 3]] (w.alloc (.cells #[.int .i64 0, .int .i64 52, .int .i64 1] 2)) (WroteT sfL w) :=
  (ref13_Encode 166 _ [0, 52, 1] _ (by decide) (rowZ_three w 0 52 1 2) (in_three 0 52 1 (by decide) (by decide) (by decide)) (by decide)).mono (fun e w' ⟨v, h1, h2, _, h3⟩ => wrote_of _ ⟨v, h1, h2, ((Grew.refl w).alloc _).trans h3⟩)
end Go.Proofs.YtcdmbnbanopioaaGreatDoor

namespace Go.Proofs.YtcdmbnbanopioaaGreatDoor
open Go.RowKit
set_option linter.unusedVariables false

-- [REF
set_option maxRecDepth 100000 in
set_option maxHeartbeats 8000000 in
theorem ref14_Plan (k : Nat) (w : World) (hk : k < 256) : Calls Tryz.prog 5 #[.int .u8 (k : Nat)] w (PlanT k w) := by
  by_cases h1 : k = 1
  · subst h1
    unfold PlanT
    rw [plan_one]
    go_enter Tryz.func5, Tryz.ntmps5
    go_upto_region 5 with (go_at_call 11; refine (ref_zda _).mono ?_; rintro e w1 ⟨A1, c1, er1, rfl, r1, g1⟩; have R1 := Lib.hid r1; have G1 := Lib.hid g1; clear r1 g1)
    go_upto_region 6 with (go_at_call 11; refine (ref_rmc _).mono ?_; rintro e w2 ⟨A2, c2, er2, rfl, r2, g2⟩; have R2 := Lib.hid r2; have G2 := Lib.hid g2; clear r2 g2)
    go_upto_region 7 with (go_at_call 12; refine (ref_ask _).mono ?_; rintro e w3 ⟨A3, c3, er3, rfl, r3, g3⟩; have R3 := Lib.hid r3; have G3 := Lib.hid g3; clear r3 g3)
    have hL0 : CellsAt (w3.alloc (.cells #[.slice A1 zdaL.length c1, .int .u8 0, .int .u8 0, .int .u8 0, .slice A2 rmcL.length c2, .int .u8 0, .int .u8 0, .int .u8 0, .slice A3 askL.length c3, .int .u8 0, .int .u8 0, .int .u8 0] 27)) 4 (.slice (some ⟨w3.heap.size, 0, none⟩) 3 3) 3 (flatK [⟨zdaL, 0, 0, 0⟩, ⟨rmcL, 0, 0, 0⟩, ⟨askL, 0, 0, 0⟩] [.slice A1 zdaL.length c1, .slice A2 rmcL.length c2, .slice A3 askL.length c3]) := cells_lit w3 27 3 [.slice A1 zdaL.length c1, .int .u8 0, .int .u8 0, .int .u8 0, .slice A2 rmcL.length c2, .int .u8 0, .int .u8 0, .int .u8 0, .slice A3 askL.length c3, .int .u8 0, .int .u8 0, .int .u8 0] rfl
    have hone : ∀ x ∈ flatK [⟨zdaL, 0, 0, 0⟩, ⟨rmcL, 0, 0, 0⟩, ⟨askL, 0, 0, 0⟩] [.slice A1 zdaL.length c1, .slice A2 rmcL.length c2, .slice A3 askL.length c3], x.oneCell' = true := flatK_one _ _ (fun v hv => by simp only [List.mem_cons, List.not_mem_nil, or_false] at hv; rcases hv with rfl | rfl | rfl <;> rfl)
    have HL := Lib.hid hL0
    have HO := Lib.hid hone
    have GA := Lib.hid ((((G1.out.trans G2.out).trans G3.out)).alloc (.cells #[.slice A1 zdaL.length c1, .int .u8 0, .int .u8 0, .int .u8 0, .slice A2 rmcL.length c2, .int .u8 0, .int .u8 0, .int .u8 0, .slice A3 askL.length c3, .int .u8 0, .int .u8 0, .int .u8 0] 27))
    clear hL0 hone
    have Q1 := Lib.hid (((R1.out.grew G2.out).grew G3.out).grew ((Grew.refl w3).alloc (.cells #[.slice A1 zdaL.length c1, .int .u8 0, .int .u8 0, .int .u8 0, .slice A2 rmcL.length c2, .int .u8 0, .int .u8 0, .int .u8 0, .slice A3 askL.length c3, .int .u8 0, .int .u8 0, .int .u8 0] 27)))
    have Q2 := Lib.hid ((R2.out.grew G3.out).grew ((Grew.refl w3).alloc (.cells #[.slice A1 zdaL.length c1, .int .u8 0, .int .u8 0, .int .u8 0, .slice A2 rmcL.length c2, .int .u8 0, .int .u8 0, .int .u8 0, .slice A3 askL.length c3, .int .u8 0, .int .u8 0, .int .u8 0] 27)))
    have Q3 := Lib.hid (R3.out.grew ((Grew.refl w3).alloc (.cells #[.slice A1 zdaL.length c1, .int .u8 0, .int .u8 0, .int .u8 0, .slice A2 rmcL.length c2, .int .u8 0, .int .u8 0, .int .u8 0, .slice A3 askL.length c3, .int .u8 0, .int .u8 0, .int .u8 0] 27)))
    go_wp2_with (refine wpList_joinC _ rfl _ _ 22 rfl w.heap.size 27 _ 4 32 rfl infoCmd rfl (by decide) (.slice none 0 0) 0 [] rfl (World.ownsRow_nil _ _ _ _) (.slice (some ⟨w3.heap.size, 0, none⟩) 3 3) 3 _ rfl HL.out HO.out (by decide) (by decide) GA.out.size ?_; intro v2 x2 hown2 hgrow2 hnil2; have HOW := Lib.hid hown2; have hF2 : Grew _ x2 := Below.grown (Grew.refl _) hgrow2 (Nat.le_refl _) (fun b hb => by cases hb); have HF2 := Lib.hid hF2; clear hown2 hgrow2 hnil2 hF2)
    go_wp2_with fail
    go_ret
    refine ⟨v2, rfl, cmds_of_cells (cs := [⟨zdaL, 0, 0, 0⟩, ⟨rmcL, 0, 0, 0⟩, ⟨askL, 0, 0, 0⟩]) (vs := [.slice A1 zdaL.length c1, .slice A2 rmcL.length c2, .slice A3 askL.length c3]) (n := 3) (CellsAt.of_own (by have h := HOW.out; rwa [List.nil_append, Nat.zero_add] at h)) ⟨rfl, rfl⟩ (rows_three (Q1.out.grew HF2.out) (Q2.out.grew HF2.out) (Q3.out.grew HF2.out)) ?_, GA.out.trans HF2.out⟩
    intro c hc
    simp only [List.mem_cons, List.not_mem_nil, or_false] at hc
    rcases hc with rfl | rfl | rfl
    · exact ⟨(by decide : 0 < 256), (by decide : 0 < 256), (by decide : 0 < 256)⟩
    · exact ⟨(by decide : 0 < 256), (by decide : 0 < 256), (by decide : 0 < 256)⟩
    · exact ⟨(by decide : 0 < 256), (by decide : 0 < 256), (by decide : 0 < 256)⟩
  · by_cases h2 : k = 2
    · subst h2
      unfold PlanT
      rw [plan_two]
      go_enter Tryz.func5, Tryz.ntmps5
      go_upto_region 10 with (go_at_call 13; refine (ref_ub1 _).mono ?_; rintro e w1 ⟨A1, c1, er1, rfl, r1, g1⟩; have R1 := Lib.hid r1; have G1 := Lib.hid g1; clear r1 g1)
      go_upto_region 11 with (go_at_call 13; refine (ref_ub2 _).mono ?_; rintro e w2 ⟨A2, c2, er2, rfl, r2, g2⟩; have R2 := Lib.hid r2; have G2 := Lib.hid g2; clear r2 g2)
      go_upto_region 12 with (go_at_call 13; refine (ref_ub3 _).mono ?_; rintro e w3 ⟨A3, c3, er3, rfl, r3, g3⟩; have R3 := Lib.hid r3; have G3 := Lib.hid g3; clear r3 g3)
      have hL0 : CellsAt (w3.alloc (.cells #[.slice A1 ub1L.length c1, .int .u8 1, .int .u8 6, .int .u8 8, .slice A2 ub2L.length c2, .int .u8 1, .int .u8 6, .int .u8 1, .slice A3 ub3L.length c3, .int .u8 1, .int .u8 6, .int .u8 1] 27)) 4 (.slice (some ⟨w3.heap.size, 0, none⟩) 3 3) 3 (flatK [⟨ub1L, 1, 6, 8⟩, ⟨ub2L, 1, 6, 1⟩, ⟨ub3L, 1, 6, 1⟩] [.slice A1 ub1L.length c1, .slice A2 ub2L.length c2, .slice A3 ub3L.length c3]) := cells_lit w3 27 3 [.slice A1 ub1L.length c1, .int .u8 1, .int .u8 6, .int .u8 8, .slice A2 ub2L.length c2, .int .u8 1, .int .u8 6, .int .u8 1, .slice A3 ub3L.length c3, .int .u8 1, .int .u8 6, .int .u8 1] rfl
      have hone : ∀ x ∈ flatK [⟨ub1L, 1, 6, 8⟩, ⟨ub2L, 1, 6, 1⟩, ⟨ub3L, 1, 6, 1⟩] [.slice A1 ub1L.length c1, .slice A2 ub2L.length c2, .slice A3 ub3L.length c3], x.oneCell' = true := flatK_one _ _ (fun v hv => by simp only [List.mem_cons, List.not_mem_nil, or_false] at hv; rcases hv with rfl | rfl | rfl <;> rfl)
      have HL := Lib.hid hL0
      have HO := Lib.hid hone
      have GA := Lib.hid ((((G1.out.trans G2.out).trans G3.out)).alloc (.cells #[.slice A1 ub1L.length c1, .int .u8 1, .int .u8 6, .int .u8 8, .slice A2 ub2L.length c2, .int .u8 1, .int .u8 6, .int .u8 1, .slice A3 ub3L.length c3, .int .u8 1, .int .u8 6, .int .u8 1] 27))
      clear hL0 hone
      have Q1 := Lib.hid (((R1.out.grew G2.out).grew G3.out).grew ((Grew.refl w3).alloc (.cells #[.slice A1 ub1L.length c1, .int .u8 1, .int .u8 6, .int .u8 8, .slice A2 ub2L.length c2, .int .u8 1, .int .u8 6, .int .u8 1, .slice A3 ub3L.length c3, .int .u8 1, .int .u8 6, .int .u8 1] 27)))
      have Q2 := Lib.hid ((R2.out.grew G3.out).grew ((Grew.refl w3).alloc (.cells #[.slice A1 ub1L.length c1, .int .u8 1, .int .u8 6, .int .u8 8, .slice A2 ub2L.length c2, .int .u8 1, .int .u8 6, .int .u8 1, .slice A3 ub3L.length c3, .int .u8 1, .int .u8 6, .int .u8 1] 27)))
      have Q3 := Lib.hid (R3.out.grew ((Grew.refl w3).alloc (.cells #[.slice A1 ub1L.length c1, .int .u8 1, .int .u8 6, .int .u8 8, .slice A2 ub2L.length c2, .int .u8 1, .int .u8 6, .int .u8 1, .slice A3 ub3L.length c3, .int .u8 1, .int .u8 6, .int .u8 1] 27)))
      go_wp2_with (refine wpList_joinC _ rfl _ _ 22 rfl w.heap.size 27 _ 4 32 rfl infoCmd rfl (by decide) (.slice none 0 0) 0 [] rfl (World.ownsRow_nil _ _ _ _) (.slice (some ⟨w3.heap.size, 0, none⟩) 3 3) 3 _ rfl HL.out HO.out (by decide) (by decide) GA.out.size ?_; intro v2 x2 hown2 hgrow2 hnil2; have HOW := Lib.hid hown2; have hF2 : Grew _ x2 := Below.grown (Grew.refl _) hgrow2 (Nat.le_refl _) (fun b hb => by cases hb); have HF2 := Lib.hid hF2; clear hown2 hgrow2 hnil2 hF2)
      go_wp2_with fail
      go_ret
      refine ⟨v2, rfl, cmds_of_cells (cs := [⟨ub1L, 1, 6, 8⟩, ⟨ub2L, 1, 6, 1⟩, ⟨ub3L, 1, 6, 1⟩]) (vs := [.slice A1 ub1L.length c1, .slice A2 ub2L.length c2, .slice A3 ub3L.length c3]) (n := 3) (CellsAt.of_own (by have h := HOW.out; rwa [List.nil_append, Nat.zero_add] at h)) ⟨rfl, rfl⟩ (rows_three (Q1.out.grew HF2.out) (Q2.out.grew HF2.out) (Q3.out.grew HF2.out)) ?_, GA.out.trans HF2.out⟩
      intro c hc
      simp only [List.mem_cons, List.not_mem_nil, or_false] at hc
      rcases hc with rfl | rfl | rfl
      · exact ⟨(by decide : 1 < 256), (by decide : 6 < 256), (by decide : 8 < 256)⟩
      · exact ⟨(by decide : 1 < 256), (by decide : 6 < 256), (by decide : 1 < 256)⟩
      · exact ⟨(by decide : 1 < 256), (by decide : 6 < 256), (by decide : 1 < 256)⟩
    · by_cases h3 : k = 3
      · subst h3
        unfold PlanT
        rw [plan_three]
        go_enter Tryz.func5, Tryz.ntmps5
        go_upto_region 15 with (go_at_call 14; refine (ref_sirf _).mono ?_; rintro e w1 ⟨A1, c1, er1, rfl, r1, g1⟩; have R1 := Lib.hid r1; have G1 := Lib.hid g1; clear r1 g1)
        have hL0 : CellsAt (w1.alloc (.cells #[.slice A1 sfL.length c1, .int .u8 2, .int .u8 0, .int .u8 166] 27)) 4 (.slice (some ⟨w1.heap.size, 0, none⟩) 1 1) 1 (flatK [⟨sfL, 2, 0, 166⟩] [.slice A1 sfL.length c1]) := cells_lit w1 27 1 [.slice A1 sfL.length c1, .int .u8 2, .int .u8 0, .int .u8 166] rfl
        have hone : ∀ x ∈ flatK [⟨sfL, 2, 0, 166⟩] [.slice A1 sfL.length c1], x.oneCell' = true := flatK_one _ _ (fun v hv => by simp only [List.mem_cons, List.not_mem_nil, or_false] at hv; rcases hv with rfl <;> rfl)
        have HL := Lib.hid hL0
        have HO := Lib.hid hone
        have GA := Lib.hid ((G1.out).alloc (.cells #[.slice A1 sfL.length c1, .int .u8 2, .int .u8 0, .int .u8 166] 27))
        clear hL0 hone
        have Q1 := Lib.hid (R1.out.grew ((Grew.refl w1).alloc (.cells #[.slice A1 sfL.length c1, .int .u8 2, .int .u8 0, .int .u8 166] 27)))
        go_wp2_with (refine wpList_joinC _ rfl _ _ 22 rfl w.heap.size 27 _ 4 32 rfl infoCmd rfl (by decide) (.slice none 0 0) 0 [] rfl (World.ownsRow_nil _ _ _ _) (.slice (some ⟨w1.heap.size, 0, none⟩) 1 1) 1 _ rfl HL.out HO.out (by decide) (by decide) GA.out.size ?_; intro v2 x2 hown2 hgrow2 hnil2; have HOW := Lib.hid hown2; have hF2 : Grew _ x2 := Below.grown (Grew.refl _) hgrow2 (Nat.le_refl _) (fun b hb => by cases hb); have HF2 := Lib.hid hF2; clear hown2 hgrow2 hnil2 hF2)
        go_wp2_with fail
        go_ret
        refine ⟨v2, rfl, cmds_of_cells (cs := [⟨sfL, 2, 0, 166⟩]) (vs := [.slice A1 sfL.length c1]) (n := 1) (CellsAt.of_own (by have h := HOW.out; rwa [List.nil_append, Nat.zero_add] at h)) ⟨rfl, rfl⟩ (rows_oneP (Q1.out.grew HF2.out)) ?_, GA.out.trans HF2.out⟩
        intro c hc
        simp only [List.mem_cons, List.not_mem_nil, or_false] at hc
        rcases hc with rfl
        · exact ⟨(by decide : 2 < 256), (by decide : 0 < 256), (by decide : 166 < 256)⟩
      · have n1 : ((k : Int) == 1) = false := by rw [beq_eq_false_iff_ne]; omega
        have n2 : ((k : Int) == 2) = false := by rw [beq_eq_false_iff_ne]; omega
        have n3 : ((k : Int) == 3) = false := by rw [beq_eq_false_iff_ne]; omega
        have hp := Lib.hid (plan_none h1 h2 h3)
        clear h1 h2 h3
        go_enter Tryz.func5, Tryz.ntmps5
        go_wp2_with fail
        go_ret
        unfold PlanT
        rw [hp.out]
        exact ⟨_, rfl, ⟨none, 0, rfl, Nat.le_refl _, fun h => absurd h (by simp)⟩, Grew.refl _⟩
-- REF]
end Go.Proofs.YtcdmbnbanopioaaGreatDoor

