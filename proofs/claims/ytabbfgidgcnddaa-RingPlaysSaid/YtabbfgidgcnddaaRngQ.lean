/-
  The walk of the law on whatever is done with a ring, out of the ring's contracts.
-/
import Derived.Test.YtabbfgidgcnddaaRngW
import Derived.Deep.RegionHeldLaw
import Derived.Deep.DeepCutAuto
import Derived.Deep.CutBlock
namespace Go.Proofs.Ytabbfgidgcnddaa
open Go.RowKit
set_option linter.unusedVariables false

set_option maxRecDepth 1000000 in
set_option maxHeartbeats 8000000 in
theorem walk_RingPlays {R : World → Value → (Nat → Prop) → Nat → List Nat → Nat → Prop} {T : World → Prop} (P : RingCalls R T) (size n i : Int) (v : Value) (l : List ROp) (w : World) (ht : T w)
    (hs : -9223372036854775808 ≤ size ∧ size ≤ 9223372036854775807) (hnn : -9223372036854775808 ≤ n ∧ n ≤ 9223372036854775807) (hii : -9223372036854775808 ≤ i ∧ i ≤ 9223372036854775807)
    (hR : OpsAt w v l) (hO : ∀ i, OpOk (opAt l i)) (hln : l.length ≤ 140737488355328) :
    Calls Try.prog 3 #[.int .i64 size, v, .int .i64 n, .int .i64 i] w fun e w' => e = .returned (.bool true) ∧ Grew w w' := by
  have K := Lib.hid P.keep
  have HK := fun w ht => Lib.hid (ring_known P w ht)
  have HRW := Lib.hid hR
  have hR' := hR
  obtain ⟨A, c, rfl, hc, hr⟩ := hR
  clear hr
  go_enter Try.func3, Try.ntmps3
  go_wp2_with fail
  go_loop [9, 26] (fun a i => ∃ (k : Nat) (z : Int), k ≤ l.length ∧ i = .int .i64 (k : Nat) ∧ a = .int .i64 z ∧ Hid (l.length ≤ 60 → z = (opSum l k : Nat)) ∧ -9223372036854775808 ≤ z ∧ z ≤ 9223372036854775807 ∧ (l.length ≤ 60 → 0 ≤ z ∧ z ≤ k * 140737488355328)) (fun _ i => l.length - (intOf i).toNat)
  case atStart => exact ⟨0, 0, Nat.zero_le _, rfl, rfl, fun _ => rfl, by omega, by omega, fun _ => by omega⟩
  case round =>
    obtain ⟨k, z, hk, rfl, rfl, hz, z1, z2, z3⟩ := hrel
    by_cases hlt : k < l.length
    ·
      -- [SUM
      obtain ⟨A2, c2, e, _, hrow⟩ := HRW.out
      cases e
      obtain ⟨b, o, rfl, hb, hcell⟩ := hrow (by omega)
      obtain ⟨A3, c3, x0, x1, x2, x3⟩ := hcell k hlt
      have hlk := (hO k).l
      have hsum : Hid (opSum l (k + 1) = opSum l k + (opAt l k).b.length) := Lib.hid rfl
      clear hcell hrow x0 x1 x3
      generalize (opAt l k).b.length = q at *
      by_cases h60 : l.length ≤ 60
      · have hz0 := hz.out h60
        have z4 := z3 h60
        have HZ : Hid (z + q = (opSum l (k + 1) : Nat)) := by show _ = _; rw [hsum.out, hz0]; simp
        clear hz hz0 z3
        go_wp2_with fail
        go_round
        case rel => exact ⟨k + 1, z + q, by omega, by go_num, rfl, fun _ => HZ.out, by omega, by omega, fun _ => by omega⟩
        case measure => simp [intOf]; omega
      · clear hz z3
        have hwb : -9223372036854775808 ≤ wrap64 (z + q) ∧ wrap64 (z + q) ≤ 9223372036854775807 := by unfold wrap64; omega
        go_wp2_with fail
        go_round
        case rel => exact ⟨k + 1, wrap64 (z + q), by omega, by go_num, rfl, fun h => absurd h h60, hwb.1, hwb.2, fun h => absurd h h60⟩
        case measure => simp [intOf]; omega
      -- SUM]
    · obtain rfl : k = l.length := by omega
      have known : 60 < l.length ∨ 20000 < z → l.length ≤ 60 ∨ 60 < l.length := fun _ => by omega
      clear known
      by_cases h60 : 60 < l.length
      · have d1 : decide ((60 : Int) < l.length) = true := by simp; omega
        clear hz z3
        go_wp2_with fail
        refine (HK _ ht).out.mono ?_
        rintro e w1 ⟨rfl, g1⟩
        go_wp2_with fail
        go_ret
        exact ⟨rfl, g1⟩
      · have d1 : decide ((60 : Int) < l.length) = false := by simp; omega
        have hz0 := Lib.hid (hz.out (by omega))
        have z4 := (z3 (by omega)).1
        clear hz z3
        by_cases h20 : 20000 < z
        · have d2 : decide (20000 < z) = true := by simp; omega
          go_wp2_with fail
          refine (HK _ ht).out.mono ?_
          rintro e w1 ⟨rfl, g1⟩
          go_wp2_with fail
          go_ret
          exact ⟨rfl, g1⟩
        · have d2 : decide (20000 < z) = false := by simp; omega
          have hS : opSum l l.length ≤ 20000 := by have := hz0.out; omega
          by_cases hbad : size < 64 ∨ 4096 < size
          · have H0 := Lib.hid (P.bad size w hs hbad ht)
            rcases (show size < 64 ∨ (64 ≤ size ∧ 4096 < size) by omega) with hb2 | hb2
            all_goals
              go_wp2_with fail
              refine H0.out.mono ?_
              rintro e w1 ⟨rfl, g1⟩
              go_wp2_with fail
              refine (HK _ (K.out _ _ ht g1)).out.mono ?_
              rintro e w2 ⟨rfl, g2⟩
              go_wp2_with fail
              go_ret
              exact ⟨rfl, g1.trans g2⟩
          · obtain ⟨sz, rfl⟩ : ∃ sz : Nat, size = sz := ⟨size.toNat, by omega⟩
            have hsz1 : 64 ≤ sz := by omega
            have hsz2 : sz ≤ 4096 := by omega
            have H0 := Lib.hid (P.new sz w hsz1 hsz2 ht)
            clear hbad
            go_wp2_with fail
            refine H0.out.mono ?_
            rintro e w1 ⟨rg, F, rfl, hRR, hF, g1⟩
            have HB := Lib.hid (both_new (W0 := w) sz hRR hF g1 33 (fun b h => P.lt _ _ _ _ _ _ _ hRR h) (fun h => P.grew hRR h))
            have G := g1.alloc (.cells #[.int .i64 (sz : Nat), .slice none 0 0, .int .i64 0] 33)
            clear hRR hF g1 H0
            have hTL : opSum l 0 = 0 := rfl
            go_wp2_with fail
            go_loopw [11, 13, 77] (fun r wv kk wr => ∃ (k lost rg g : Nat) (F : Nat → Prop) (L : Value) (ns : List Nat), k ≤ l.length ∧ kk = .int .i64 (k : Nat) ∧ r = .pointer (some ⟨rg, 0, none⟩) ∧ wv = .pointer (some ⟨g, 0, none⟩) ∧ Hid (Both R w wr rg F g sz L ns lost) ∧ lost ≤ opSum l k ∧ Grew w wr) (fun _ _ kk _ => l.length - (intOf kk).toNat)
            case atStart => exact ⟨0, 0, rg, _, F, _, [], Nat.zero_le _, rfl, rfl, rfl, HB, by omega, G⟩
            case round =>
              clear HB G hTL
              obtain ⟨k, lost, rg, g, F, L, ns, hk, rfl, rfl, rfl, HB, hlost, G⟩ := hrel
              by_cases hlt : k < l.length
              · obtain ⟨A2, c2, e, _, hrow⟩ := HRW.out.grew G
                cases e
                obtain ⟨b, o, rfl, hb, hcell⟩ := hrow (by omega)
                obtain ⟨A3, c3, x0, x1, x2, x3⟩ := hcell k hlt
                have hop := hO k
                have hsum : Hid (opSum l (k + 1) = opSum l k + (opAt l k).b.length) := Lib.hid rfl
                have hsl : opSum l (k + 1) ≤ 20000 := Nat.le_trans (opSum_mono l (by omega)) hS
                obtain ⟨op, hop0⟩ : ∃ op, Hid (opAt l k = op) := ⟨_, Lib.hid rfl⟩
                rw [hop0.out] at x0 x1 x2 x3 hop hsum
                obtain ⟨kd, nd, xs⟩ := op
                obtain ⟨hkd, hnd, hxb, hxl⟩ := hop
                simp only at hkd hnd hxb hxl hsum x0 x1 x2 x3
                have hq : xs.length ≤ 20000 := by have := hsum.out; omega
                have ROW := Lib.hid x3
                obtain ⟨A2', c2', e, _, hrow'⟩ := HRW.out
                cases e
                obtain ⟨b', o', e', hb', hcell'⟩ := hrow' (by omega)
                cases e'
                obtain ⟨A3', c3', z0', z1', z2', z3'⟩ := hcell' k hlt
                rw [hop0.out] at z2' z3'
                have hx00 := (G.cell (p := ⟨b, o + k * 3 + 2, none⟩) hb').trans z2'
                rw [x2] at hx00
                simp only [Option.some.injEq, Value.slice.injEq] at hx00
                obtain ⟨rfl, _, rfl⟩ := hx00
                have ROWW := Lib.hid z3'
                clear hrow hcell x3 hrow' hcell' z0' z1' z2' z3'
                obtain ⟨V, hV⟩ : ∃ V, V = wr.alloc (.cells #[.int .i64 kd, .int .i64 nd, .slice A3 xs.length c3] 25) := ⟨_, rfl⟩
                have hVs : V.heap.size = wr.heap.size + 1 := by rw [hV]; simp
                have v0 : V.cell? ⟨wr.heap.size, 0, none⟩ = some (.int .i64 kd) := by rw [hV]; simp [go_sem]
                have v1 : V.cell? ⟨wr.heap.size, 1, none⟩ = some (.int .i64 nd) := by rw [hV]; simp [go_sem]
                have v2 : V.cell? ⟨wr.heap.size, 2, none⟩ = some (.slice A3 xs.length c3) := by rw [hV]; simp [go_sem]
                have hGV : Grew wr V := by rw [hV]; exact (Grew.refl wr).alloc _
                have hO1 := own_lit_at V (wr.heap.size + 1) hVs.symm 5
                have D0 := (Grew.refl V).alloc (.cells #[] 5)
                have hRO := (ROW.out.grew hGV).grew D0
                have hVb : V.heap.size ≤ (V.alloc (.cells #[] 5)).heap.size := D0.size
                have HVS := Lib.hid hVs
                clear hVs
                rw [hV] at hO1 D0 hRO hVb
                go_upto_block 4 with (refine wpList_joinN _ rfl _ _ 23 rfl (wr.alloc (.cells #[.int .i64 kd, .int .i64 nd, .slice A3 xs.length c3] 25)).heap.size 5 .u8 1 Try.underlying23 infoU8 (.slice (some ⟨wr.heap.size + 1, 0, none⟩) 0 0) [] rfl hO1 _ xs rfl hRO (by simp; omega) (by decide) hVb ?_; intro v9 w2 hown hgrow hnil; rw [List.nil_append] at hown; have D2 := Grew.push D0 hO1 hgrow; rw [← hV] at D2 hown; obtain ⟨bi, ci, rfl, hbi, hbi2, hci⟩ := hown.head (hnil (by simp)); have y0 := (D2.cell (p := ⟨wr.heap.size, 0, none⟩) (World.block_lt_of_cell? V _ v0)).trans v0; have y1 := (D2.cell (p := ⟨wr.heap.size, 1, none⟩) (World.block_lt_of_cell? V _ v1)).trans v1; have y2 := (D2.cell (p := ⟨wr.heap.size, 2, none⟩) (World.block_lt_of_cell? V _ v2)).trans v2; clear hV)
                have HI0 : Hid (Own V.heap.size 5 .u8 w2 (.slice (some ⟨bi, 0, none⟩) xs.length ci) xs) := hown
                have GW := (G.trans hGV).trans D2
                have hwV : w.heap.size ≤ V.heap.size := (G.trans hGV).size
                have HB2 : Hid (Both R w w2 rg F g sz L ns lost) := both_grew (P := P) HB.out (hGV.trans D2)
                have HAO : Hid (Apart F g L wr.heap.size) := both_apart (fun b h => P.lt _ _ _ _ _ _ _ HB.out.r h) HB.out (Nat.le_refl _)
                have hbo : wr.heap.size < w2.heap.size := World.block_lt_of_cell? w2 _ y0
                have HAP : Hid (Apart F g L bi) := both_apart (fun b h => P.lt _ _ _ _ _ _ _ HB.out.r h) HB.out (by rw [HVS.out] at hbi; omega)
                clear hown hgrow hnil D0 D2 hO1 hRO hVb v0 v1 v2 x0 x1 x2 HB G
                go_cut [11, 13, 17, 18, 77] (fun r wv _ _ kk wx => ∃ (lost' rg' g' : Nat) (F' : Nat → Prop) (L' : Value) (ns' : List Nat), r = .pointer (some ⟨rg', 0, none⟩) ∧ wv = .pointer (some ⟨g', 0, none⟩) ∧ kk = .int .i64 (k : Nat) ∧ Hid (Both R w wx rg' F' g' sz L' ns' lost') ∧ Hid (Apart F' g' L' bi) ∧ lost' ≤ opSum l (k + 1) ∧ Hid (Own V.heap.size 5 .u8 wx (.slice (some ⟨bi, 0, none⟩) xs.length ci) xs) ∧ Grew w wx)
                case first =>
                  have hs1 := hsum.out
                  have hl1 : lost ≤ 20000 := by have := opSum_mono l (show k ≤ k + 1 by omega); omega
                  have HAH : Ahead R w w2 rg g sz lost wr.heap.size bi ci V.heap.size F L ns xs nd A3 c3 := ⟨HB2.out, HAP.out, HAO.out, hbo, hbi2, y1, y2, hnd, hxb, hq, hl1, ROWW.out, HI0.out, GW⟩
                  refine wp_then (plays_switch P HAH ht _ _ _ _ _ _ _ _ _ _ _ _ _ _ _ _ _ _ _ _ _ _ _ _ _ _ _ _ _ _ _ _ _ _ _ _ _ _ _ _ _ _ _ _ _ _ _ _ _ _ _ _ _ _ _ _ _ _ _ _ _ _ _ _ _ _ _ _ _ _ _ _ _ _ _ _ _ _ _ _ _ _ _ _ _ _ _ _ _ _ _ _ _ _ _ _ _ _ _ _ _ _ _ _ _ _ _ _ _ _ _ _ _ _ _ _ _ _ _ _ _ _ _ _ _ _ _ _ _ _ _ _ _ _ _ _ _ _ _ _ _ _ _ _ _ _ _ _ _ _ _ _ _ _ _ _ _ _ _ _ _ _ _ _ _ _ _ _ _ _ _ _ _ _ _ _ _ _ _ _ _ _ _ _ _ _ _ _ _ _ _ _ _ _ _ _ _ _ _ _ _ _ _ _ _ _ _ _ _ _ _ _ _ _ _ _ _ _ _ _ _ _ _ _ _ _ _ _ _ _ _ _ _ _ _ _ _ _ _ _ _ _ _ _ (fun _ _ _ _ _ _ _ _ _ _ _ _ _ _ _ _ _ _ _ _ _ _ _ _ _ _ _ _ _ _ _ _ _ _ _ _ _ _ _ _ _ _ _ _ _ _ _ _ lost1 rg1 g1 F1 L1 ns1 wx hB => ?_))
                  go_wp2_with fail
                  go_meet
                  case rel => exact ⟨lost1, rg1, g1, F1, L1, ns1, rfl, rfl, rfl, hB.both, hB.ap, by have := hB.le; omega, hB.own, hB.gw⟩
                case rest =>
                  obtain ⟨lost', rg', g', F', L', ns', rfl, rfl, rfl, HB', HAP', hlost', HI', GW'⟩ := hcut
                  have hbw : bi < wc.heap.size := (World.ownsRow.old HI' bi rfl).2
                  go_wp2_with fail
                  go_loopw [135] (fun j wl => ∃ (q : Nat) (ms : List Nat), q ≤ xs.length ∧ j = .int .i64 (q : Nat) ∧ Hid (Own V.heap.size 5 .u8 wl (.slice (some ⟨bi, 0, none⟩) xs.length ci) ms) ∧ ms.length = xs.length ∧ Hid (Bytes ms) ∧ Hid (Far (fun b => b = bi) wc wl)) (fun j _ => xs.length - (intOf j).toNat)
                  case atStart => exact ⟨0, xs, Nat.zero_le _, rfl, HI', rfl, hxb, Far.refl _ _⟩
                  case round =>
                    obtain ⟨q, ms, hq1, rfl, HO, hml, HBY, HFAR⟩ := hrel
                    by_cases hlt2 : q < xs.length
                    ·
                      -- [IN
                      have HO2 : Own V.heap.size 5 .u8 wr (.slice (some ⟨bi, 0, none⟩) ms.length ci) ms := by rw [hml]; exact HO.out
                      have x0 := own_cell HO2 q (by omega)
                      have f0 := World.ownsRow.frozenAt HO2 q
                      have hx := HBY.out q
                      obtain ⟨x, HX⟩ : ∃ x, Hid (wd ms q = x) := ⟨_, Lib.hid rfl⟩
                      rw [HX.out] at x0 hx
                      have HO3 : Hid (∀ y : Nat, Own V.heap.size 5 .u8 (wr.setCell ⟨bi, q, none⟩ (.int .u8 (y : Nat))) (.slice (some ⟨bi, 0, none⟩) xs.length ci) (ms.set q y)) := fun y => by
                        have := Own.set HO2 q y (by omega); rwa [hml] at this
                      clear HO2
                      go_wp2_with fail
                      go_roundw
                      case rel =>
                        exact ⟨q + 1, ms.set q ((x + 1) % 256), by omega, by go_num, HO3.out _, by rw [List.length_set]; exact hml, bytes_set HBY.out _ _ (by omega), HFAR.out.setCell (p := ⟨bi, q, none⟩) rfl _⟩
                      case measure => simp [intOf]; omega
                      -- IN]
                    ·
                      obtain rfl : q = xs.length := by omega
                      have hbV : V.heap.size ≤ bi := (World.ownsRow.old HI'.out bi rfl).1
                      have HBX : Hid (Both R w wr rg' F' g' sz L' ns' lost') := both_far (P := P) HB'.out HAP'.out HFAR.out
                      have GX : Grew w wr := HFAR.out.grew GW' (fun b hb => by rw [hb]; omega)
                      clear HB' HAP' HFAR HI' HO HBY hml HB2 HAP HI0 GW GW' y0 y1 y2
                      have hlen := (P.inv _ _ _ _ _ _ HBX.out.r).2.1
                      have HBN := Lib.hid (P.inv _ _ _ _ _ _ HBX.out.r).2.2
                      obtain ⟨A4, c4, rfl, hc4⟩ := HBX.out.ref.row.form
                      have N1 := fun w' (k : Grew wr w') => Lib.hid (P.len w' _ _ _ _ _ (P.grew HBX.out.r k) (K.out _ _ ht (GX.trans k)))
                      have N2 : ∀ w', Grew wr w' → Hid (Calls Try.prog 13 #[.pointer (some ⟨rg', 0, none⟩), .int .i64 (ns'.length : Nat)] w' (Peeked ns' w')) := fun w' k => by
                        have := P.peek w' _ _ _ _ _ (ns'.length : Nat) (P.grew HBX.out.r k) (by omega) (K.out _ _ ht (GX.trans k))
                        rw [Int.toNat_natCast, List.take_length] at this
                        exact this
                      have N7 := fun w' (k : Grew wr w') => Lib.hid (P.at_ w' _ _ _ _ _ i (P.grew HBX.out.r k) hii (K.out _ _ ht (GX.trans k)))
                      go_wp2_with fail
                      refine (N1 _ (Grew.refl wr)).out.mono ?_
                      rintro e w3 ⟨rfl, g3⟩
                      go_wp2_with fail
                      refine (N2 _ g3).out.mono ?_
                      rintro e w4 ⟨v5, rfl, hv5, g34⟩
                      have hs4 := (g3.trans g34).size
                      have h3s := g3.size
                      obtain ⟨A5, c5, rfl, hc5⟩ := hv5.row.form
                      have HV5 := Lib.hid hv5
                      have D0 : Grew wr w4 := g3.trans g34
                      clear hv5 N2
                      go_upto_region 41 with fail
                      go_cut [192] (fun t wx => t = .bool false ∧ Grew w4 wx)
                      case first =>
                        refine wp_then (told_same P HBX ht GX D0 HV5 hnn _ _ _ _ _ _ _ _ _ _ _ _ _ _ _ _ _ _ _ _ _ _ _ _ _ _ _ _ _ _ _ _ _ _ _ _ _ _ _ _ _ _ _ _ _ _ _ _ _ _ _ _ _ _ _ _ _ _ _ _ _ _ _ _ _ _ _ _ _ _ _ _ _ _ _ _ _ _ _ _ _ _ _ _ _ _ _ _ _ _ _ _ _ _ _ _ _ _ _ _ _ _ _ _ _ _ _ _ _ _ _ _ _ _ _ _ _ _ _ _ _ _ _ _ _ _ _ _ _ _ _ _ _ _ _ _ _ _ _ _ _ _ _ _ _ _ _ _ _ _ _ _ _ _ _ _ _ _ _ _ _ _ _ _ _ _ _ _ _ _ _ _ _ _ _ _ _ _ _ _ _ _ _ _ _ _ _ _ _ _ _ _ _ _ _ _ _ _ _ _ _ _ _ _ _ _ _ _ _ _ _ _ _ _ _ _ _ _ _ _ _ _ _ _ _ _ _ _ _ _ _ _ _ _ _ _ _ _ _ _ _ _ _ _ (fun _ _ _ _ _ _ _ _ _ _ _ _ _ _ _ _ _ _ _ _ _ _ _ _ _ _ _ _ _ _ _ _ _ _ _ _ _ _ _ _ _ _ _ wx hg => ?_))
                        go_wp2_with fail
                        go_meet
                        case rel => exact ⟨rfl, hg⟩
                      case rest =>
                        clear N1
                        obtain ⟨rfl, D⟩ := hcut
                        have HOG : Hid (Own w3.heap.size 5 .u8 wc (.slice A5 ns'.length c5) ns') := HV5.out.grew D
                        have HGG := D0.trans D
                        clear HV5
                        go_wp2_with fail
                        go_loopw [195] (fun j wl => ∃ (q : Nat) (ms : List Nat), q ≤ ns'.length ∧ j = .int .i64 (q : Nat) ∧ Hid (Own w3.heap.size 5 .u8 wl (.slice A5 ns'.length c5) ms) ∧ ms.length = ns'.length ∧ Hid (Bytes ms) ∧ Grew wr wl) (fun j _ => ns'.length - (intOf j).toNat)
                        case atStart => exact ⟨0, ns', Nat.zero_le _, rfl, HOG, rfl, HBN, HGG⟩
                        case round =>
                          obtain ⟨q, ms, hq1, rfl, HO, hml, HBY, HG1⟩ := hrel
                          by_cases hlt2 : q < ns'.length
                          ·
                            -- [GOT
                            obtain ⟨gg, cg, e, hgg, _⟩ := HO.out.form (by omega)
                            simp only [Value.slice.injEq] at e
                            obtain ⟨rfl, hx9, rfl⟩ := e
                            clear hx9
                            have HO2 : Own w3.heap.size 5 .u8 wr (.slice (some ⟨gg, 0, none⟩) ms.length c5) ms := by rw [hml]; exact HO.out
                            have x0 := own_cell HO2 q (by omega)
                            have f0 := World.ownsRow.frozenAt HO2 q
                            have hx := HBY.out q
                            obtain ⟨x, HX⟩ : ∃ x, Hid (wd ms q = x) := ⟨_, Lib.hid rfl⟩
                            rw [HX.out] at x0 hx
                            have HO3 : Hid (∀ y : Nat, Own w3.heap.size 5 .u8 (wr.setCell ⟨gg, q, none⟩ (.int .u8 (y : Nat))) (.slice (some ⟨gg, 0, none⟩) ns'.length c5) (ms.set q y)) := fun y => by
                              have := Own.set HO2 q y (by omega); rwa [hml] at this
                            clear HO2
                            go_wp2_with fail
                            go_roundw
                            case rel => exact ⟨q + 1, ms.set q ((x + 1) % 256), by omega, by go_num, HO3.out _, by rw [List.length_set]; exact hml, bytes_set HBY.out _ _ (by omega), HG1.setCell (p := ⟨gg, q, none⟩) (by show _ ≤ gg; omega) _⟩
                            case measure => simp [intOf]; omega
                            -- GOT]
                          ·
                            -- [R49
                            obtain rfl : q = ns'.length := by omega
                            have HBZ : Hid (Both R w wr rg' F' g' sz (.slice A4 ns'.length c4) ns' lost') := both_grew (P := P) HBX.out HG1
                            have M7 := N7 wr HG1
                            have GZ := GX.trans HG1
                            clear HO HBY hml N7 HBX HOG HBN HGG
                            by_cases hin : 0 ≤ i ∧ i < ns'.length
                            · obtain ⟨ii, rfl⟩ : ∃ ii : Nat, i = ii := ⟨i.toNat, by omega⟩
                              have hd : decide (0 ≤ (ii : Int) ∧ (ii : Int) < ns'.length) = true := by simp; omega
                              rw [if_pos hin, hd, Int.toNat_natCast] at M7
                              obtain ⟨A6, c6, e, _, hr⟩ := HBZ.out.ref.row
                              simp only [Value.slice.injEq] at e
                              obtain ⟨rfl, _, rfl⟩ := e
                              obtain ⟨b4, o4, rfl, hb4, hcl⟩ := hr (by omega)
                              have z0 := hcl ii (by omega)
                              have z1' := HBZ.out.ref.c1
                              obtain ⟨x, HX⟩ : ∃ x, Hid (wd ns' ii = x) := ⟨_, Lib.hid rfl⟩
                              rw [HX.out] at z0 M7
                              have i1 : (0 : Int) ≤ ii := by omega
                              have i2 : (ii : Int) < ns'.length := hin.2
                              clear hcl hr hd hin
                              go_wp2_with fail
                              refine M7.out.mono ?_
                              rintro e w5 ⟨rfl, g5⟩
                              have z2 := (g5.cell (p := ⟨b4, o4 + ii, none⟩) hb4).trans z0
                              have z3 := (g5.cell (p := ⟨g', 1, none⟩) HBZ.out.ref.lt).trans z1'
                              clear z0 z1'
                              go_wp2_with fail
                              go_roundw
                              case rel => exact ⟨k + 1, lost', rg', g', F', _, ns', by omega, by go_num, rfl, rfl, both_grew (P := P) HBZ.out g5, hlost', GZ.trans g5⟩
                              case measure => simp [intOf]; omega
                            · have hd : decide (0 ≤ i ∧ i < ns'.length) = false := by simp; omega
                              rw [if_neg hin, hd] at M7
                              have z1' := HBZ.out.ref.c1
                              rcases (show i < 0 ∨ (0 ≤ i ∧ (ns'.length : Int) ≤ i) by omega) with hi2 | ⟨hi2, hi3⟩
                              all_goals
                                clear hd hin
                                go_wp2_with fail
                                refine M7.out.mono ?_
                                rintro e w5 ⟨rfl, g5⟩
                                have z3 := (g5.cell (p := ⟨g', 1, none⟩) HBZ.out.ref.lt).trans z1'
                                go_wp2_with fail
                                go_roundw
                                case rel => exact ⟨k + 1, lost', rg', g', F', _, ns', by omega, by go_num, rfl, rfl, both_grew (P := P) HBZ.out g5, hlost', GZ.trans g5⟩
                                case measure => simp [intOf]; omega
                            -- R49]
              · obtain rfl : k = l.length := by omega
                go_wp2_with fail
                refine (HK _ (K.out _ _ ht G)).out.mono ?_
                rintro e w9 ⟨rfl, g9⟩
                go_wp2_with fail
                go_ret
                exact ⟨rfl, G.trans g9⟩
end Go.Proofs.Ytabbfgidgcnddaa
