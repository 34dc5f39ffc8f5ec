/-
  The walk of the law on what comes into a ring, out of the contracts.
-/
import Derived.Test.YtkoklmecijejkaaFrmU
import Derived.Test.YtkoklmecijejkaaRowsA
import Derived.Deep.RegionHeldLaw
namespace Go.Proofs.Ytkoklmecijejkaa
open Go.RowKit
set_option linter.unusedVariables false

/-- The program's ring and the document's, side by side. -/
structure Both (R : World → Value → (Nat → Prop) → Nat → List Nat → Nat → Prop) (w0 wr : World) (v : Value) (F : Nat → Prop) (g sz : Nat) (Lv : Value) (L1 L2 : List Nat) (l1 l2 : Nat) : Prop where
  r : R wr v F sz L1 l1
  a : RefAt wr g sz Lv L2 l2
  hF : ∀ b, F b → w0.heap.size ≤ b ∧ b ≠ g ∧ Lv.ownBlock ≠ some b
  hg : w0.heap.size ≤ g
  G : Grew w0 wr
section
variable {R : World → Value → (Nat → Prop) → Nat → List Nat → Nat → Prop} {T : World → Prop} {w0 wr w' : World} {v : Value} {F : Nat → Prop} {g sz : Nat} {Lv : Value} {L1 L2 : List Nat} {l1 l2 : Nat}
theorem Both.grew (P : RingCalls R T) (h : Both R w0 wr v F g sz Lv L1 L2 l1 l2) (k : Grew wr w') : Both R w0 w' v F g sz Lv L1 L2 l1 l2 :=
  ⟨P.grew h.r k, h.a.grew k, h.hF, h.hg, h.G.trans k⟩
theorem Both.turnR (h : Both R w0 wr v F g sz Lv L1 L2 l1 l2) {F' : Nat → Prop} {M : List Nat} {m : Nat} (hR : R w' v F' sz M m) (hF' : ∀ b, F' b → F b ∨ wr.heap.size ≤ b) (far : Far F wr w') : Both R w0 w' v F' g sz Lv M L2 m l2 := by
  refine ⟨hR, h.a.far far (fun hg => (h.hF g hg).2.1 rfl) (fun b hb hFb => (h.hF b hFb).2.2 hb), fun b hb => ?_, h.hg, far.grew h.G (fun b hb => (h.hF b hb).1)⟩
  rcases hF' b hb with hb | hb
  · exact h.hF b hb
  · have := h.a.lt
    exact ⟨Nat.le_trans h.G.size hb, by omega, fun e => by have := (h.a.own b e).1; omega⟩
theorem Both.turnA (P : RingCalls R T) (h : Both R w0 wr v F g sz Lv L1 L2 l1 l2) {Lv' : Value} {M : List Nat} {m : Nat} (hA : RefAt w' g sz Lv' M m) (hL : ∀ b, Lv'.ownBlock = some b → Lv.ownBlock = some b ∨ wr.heap.size ≤ b) (far : Far (fun k => k = g) wr w') : Both R w0 w' v F g sz Lv' L1 M l1 m := by
  refine ⟨P.far _ _ _ _ _ _ _ _ h.r far (fun b hb => (h.hF b hb).2.1), hA, fun b hb => ⟨(h.hF b hb).1, (h.hF b hb).2.1, fun e => ?_⟩, h.hg, far.grew h.G (fun b hb => by rw [hb]; exact h.hg)⟩
  rcases hL b e with h1 | h1
  · exact (h.hF b hb).2.2 h1
  · have := P.lt _ _ _ _ _ _ _ h.r hb; omega
theorem ref_next_is {w : World} {g size lost : Nat} {L0 : Value} {L : List Nat} (h : RefAt w g size L0 L lost) (hB : Bytes L) (hl : L.length ≤ 4500) (hz : size ≤ 100000) {k : Nat} {ns : List Nat} {ok : Bool} {d : Nat} {L2 : List Nat} {o : Option (Nat × List Nat)} (hN : nextOf size L = (o, d, L2)) (ho : frameOf o = (k, ns)) (hs : o.isSome = ok) :
    Calls Try.prog 12 #[.pointer (some ⟨g, 0, none⟩)] w fun e w' => ∃ A c Lv, e = .returned (.tuple #[.agg #[.int .u8 (k : Nat), .slice A ns.length c], .bool ok, .int .i64 (d : Nat)]) ∧ Own w.heap.size 5 .u8 w' (.slice A ns.length c) ns ∧ k < 256 ∧ RefAt w' g size Lv L2 lost ∧ Lv.ownBlock = L0.ownBlock ∧ Far (fun b => b = g) w w' := by
  have h := ref08_Next g size L0 L lost w h hB hl hz
  unfold RefNext at h
  rw [hN] at h
  simp only [ho, hs] at h
  refine h.mono ?_
  rintro e w' ⟨fv, Lv, rfl, hO, rest⟩
  obtain ⟨A, c, rfl, hc⟩ := hO.row.form
  exact ⟨A, c, Lv, rfl, hO, rest⟩
theorem refAt_new (w : World) (E : TypeId) (sz : Nat) : RefAt (w.alloc (.cells #[.int .i64 sz, .slice none 0 0, .int .i64 0] E)) w.heap.size sz (.slice none 0 0) [] 0 := by
  refine ⟨by simp, ?_, ?_, ?_, ?_, ?_, Row.nil _ _, fun b hb => by cases hb⟩ <;> simp [go_sem]
end

set_option maxRecDepth 1000000 in
set_option maxHeartbeats 4000000 in
theorem walk_FrameTakes {R : World → Value → (Nat → Prop) → Nat → List Nat → Nat → Prop} {T : World → Prop} (P : RingCalls R T) (Q : FrameCalls R T) (size : Int) (v : Value) (bss : List (List Nat)) (w : World) (ht : T w)
    (hs : -9223372036854775808 ≤ size ∧ size ≤ 9223372036854775807) (hR : RowsAt w v bss) (hB : ∀ i, Bytes (bss.getD i [])) (hn : bss.length ≤ 140737488355328) (hl : ∀ i, (bss.getD i []).length ≤ 140737488355328) :
    Calls Try.prog 3 #[.int .i64 size, v] w fun e w' => e = .returned (.bool true) ∧ Grew w w' := by
  have K := Lib.hid P.keep
  have HK := fun w ht => Lib.hid (frame_known P Q w ht)
  have HRW := Lib.hid hR
  obtain ⟨A, c, rfl, hc, hr⟩ := hR
  clear hr
  go_enter Try.func3, Try.ntmps3
  go_wp2_with fail
  by_cases h40 : 40 < bss.length
  · have hc2 : decide ((40 : Int) < bss.length) = true := by simp; omega
    go_loopw [5, 22] (fun a i wr => ∃ (x : Int) (k : Nat), k ≤ bss.length ∧ i = .int .i64 (k : Nat) ∧ a = .int .i64 x ∧ Grew w wr) (fun _ i _ => bss.length - (intOf i).toNat)
    case atStart => exact ⟨0, 0, Nat.zero_le _, rfl, rfl, Grew.refl _⟩
    case round =>
      obtain ⟨x, k, hk, rfl, rfl, G⟩ := hrel
      by_cases hlt : k < bss.length
      · obtain ⟨A2, c2, e, _, hrow⟩ := HRW.out.grew G
        cases e
        obtain ⟨b, o, rfl, hb, hcell⟩ := hrow (by omega)
        obtain ⟨A3, c3, x0, x1⟩ := hcell k hlt
        clear hcell hrow x1
        go_wp2_with fail
        go_roundw
        case rel => exact ⟨_, k + 1, by omega, by go_num, rfl, G⟩
        case measure => simp [intOf]; omega
      · by_cases hbad : size < 64 ∨ 4096 < size
        · have H0 := Lib.hid (P.bad size wr hs hbad (K.out _ _ ht G))
          go_wp2_with fail
          refine H0.out.mono ?_
          rintro e w1 ⟨rfl, g⟩
          go_wp2_with fail
          refine (HK _ (K.out _ _ ht (G.trans g))).out.mono ?_
          rintro e w2 ⟨rfl, g2⟩
          go_wp2_with fail
          go_ret
          exact ⟨rfl, (G.trans g).trans g2⟩
        · obtain ⟨sz, rfl⟩ : ∃ sz : Nat, size = sz := ⟨size.toNat, by omega⟩
          have H0 := Lib.hid (P.new sz wr (by omega) (by omega) (K.out _ _ ht G))
          go_wp2_with fail
          refine H0.out.mono ?_
          rintro e w1 ⟨g, F, rfl, hR, hF, g1⟩
          go_wp2_with fail
          refine (HK _ (K.out _ _ ht (G.trans g1))).out.mono ?_
          rintro e w2 ⟨rfl, g2⟩
          go_wp2_with fail
          go_ret
          exact ⟨rfl, (G.trans g1).trans g2⟩
  · have hc2 : decide ((40 : Int) < bss.length) = false := by simp; omega
    have h40' : bss.length ≤ 40 := by omega
    go_loopw [5, 22] (fun a i wr => ∃ (k : Nat), k ≤ bss.length ∧ i = .int .i64 (k : Nat) ∧ a = .int .i64 ((cat bss k).length : Nat) ∧ (cat bss k).length ≤ k * 140737488355328 ∧ Grew w wr) (fun _ i _ => bss.length - (intOf i).toNat)
    case atStart => exact ⟨0, Nat.zero_le _, rfl, rfl, by simp [cat], Grew.refl _⟩
    case round =>
      obtain ⟨k, hk, rfl, rfl, hck, G⟩ := hrel
      by_cases hlt : k < bss.length
      · obtain ⟨A2, c2, e, _, hrow⟩ := HRW.out.grew G
        cases e
        obtain ⟨b, o, rfl, hb, hcell⟩ := hrow (by omega)
        obtain ⟨A3, c3, x0, x1⟩ := hcell k hlt
        have hlk := hl k
        have HLN : Hid ((cat bss (k + 1)).length = (cat bss k).length + (bss.getD k []).length) := by show _ = _; rw [cat, List.length_append]
        clear hcell hrow x1
        generalize (bss.getD k []).length = m at *
        generalize (cat bss k).length = n at *
        have hk40 : k ≤ 40 := by omega
        go_wp2_with fail
        go_roundw
        case rel => exact ⟨k + 1, by omega, by go_num, by rw [HLN.out]; simp, by rw [HLN.out]; omega, G⟩
        case measure => simp [intOf]; omega
      · obtain rfl : k = bss.length := by omega
        have HCM : ∀ k, Hid (k < bss.length → (cat bss k).length + (bss.getD k []).length ≤ (cat bss bss.length).length) := fun k h => by
          have := cat_mono bss (bss.length - (k + 1)) (k + 1)
          rw [show k + 1 + (bss.length - (k + 1)) = bss.length by omega, cat, List.length_append] at this
          omega
        generalize (cat bss bss.length).length = tot at *
        by_cases hbad : size < 64 ∨ 4096 < size
        · have H0 := Lib.hid (P.bad size wr hs hbad (K.out _ _ ht G))
          by_cases h6 : 6000 < tot
          · have c3 : decide ((6000 : Int) < tot) = true := by simp; omega
            go_wp2_with fail
            refine H0.out.mono ?_
            rintro e w1 ⟨rfl, g⟩
            go_wp2_with fail
            refine (HK _ (K.out _ _ ht (G.trans g))).out.mono ?_
            rintro e w2 ⟨rfl, g2⟩
            go_wp2_with fail
            go_ret
            exact ⟨rfl, (G.trans g).trans g2⟩
          · have c3 : decide ((6000 : Int) < tot) = false := by simp; omega
            go_wp2_with fail
            refine H0.out.mono ?_
            rintro e w1 ⟨rfl, g⟩
            go_wp2_with fail
            refine (HK _ (K.out _ _ ht (G.trans g))).out.mono ?_
            rintro e w2 ⟨rfl, g2⟩
            go_wp2_with fail
            go_ret
            exact ⟨rfl, (G.trans g).trans g2⟩
        · obtain ⟨sz, rfl⟩ : ∃ sz : Nat, size = sz := ⟨size.toNat, by omega⟩
          have hz1 : 64 ≤ sz := by omega
          have hz2 : sz ≤ 4096 := by omega
          have H0 := Lib.hid (P.new sz wr hz1 hz2 (K.out _ _ ht G))
          by_cases h6 : 6000 < tot
          · have c3 : decide ((6000 : Int) < tot) = true := by simp; omega
            go_wp2_with fail
            refine H0.out.mono ?_
            rintro e w1 ⟨g, F, rfl, hR, hF, g1⟩
            go_wp2_with fail
            refine (HK _ (K.out _ _ ht (G.trans g1))).out.mono ?_
            rintro e w2 ⟨rfl, g2⟩
            go_wp2_with fail
            go_ret
            exact ⟨rfl, (G.trans g1).trans g2⟩
          · have c3 : decide ((6000 : Int) < tot) = false := by simp; omega
            have c4 : decide ((sz : Int) < 64) = false := by simp; omega
            have c5 : decide ((4096 : Int) < sz) = false := by simp; omega
            go_wp2_with fail
            refine H0.out.mono ?_
            clear H0
            rintro e w1 ⟨g, F, rfl, hR, hF, g1⟩
            generalize wr = W0 at *
            have lt1 : ∀ b, F b → b < w1.heap.size := fun b hb => P.lt _ _ _ _ _ _ b hR hb
            have HB0 : Hid (Both R W0 (w1.alloc (.cells #[.int .i64 (sz : Nat), .slice none 0 0, .int .i64 0] 31)) (.pointer (some ⟨g, 0, none⟩)) F w1.heap.size sz (.slice none 0 0) [] [] 0 0) :=
              ⟨P.grew hR ((Grew.refl w1).alloc _), refAt_new w1 _ sz, fun b hb => ⟨hF b hb, by have := lt1 b hb; omega, fun e => by cases e⟩, g1.size, g1.alloc _⟩
            have HB := fun i => Lib.hid (hB i)
            clear hR hF g1 lt1 hbad c4 hB hl
            go_wp2_with fail
            go_loopw [61] (fun i wr => ∃ (k : Nat) (F : Nat → Prop) (Lv : Value) (L : List Nat) (l l2 : Nat), k ≤ bss.length ∧ i = .int .i64 (k : Nat) ∧ Hid (Both R W0 wr (.pointer (some ⟨g, 0, none⟩)) F w1.heap.size sz Lv L L l l2) ∧ l + L.length ≤ (cat bss k).length ∧ l2 + L.length ≤ (cat bss k).length) (fun i _ => bss.length - (intOf i).toNat)
            case atStart => exact ⟨0, F, _, [], 0, 0, Nat.zero_le _, rfl, HB0.out, by simp, by simp⟩
            case round =>
              clear HB0
              obtain ⟨k, F, Lv, L, l, l2, hk, rfl, HBo, hll, hll2⟩ := hrel
              by_cases hlt : k < bss.length
              · obtain ⟨A2, c2, e, _, hrow⟩ := HRW.out
                cases e
                obtain ⟨b, o, rfl, hb, hcell⟩ := hrow (by omega)
                obtain ⟨A3, c3', x0, x1⟩ := hcell k hlt
                have hcat := (HCM k).out hlt
                have HLN : Hid ((cat bss (k + 1)).length = (cat bss k).length + (bss.getD k []).length) := by show _ = _; rw [cat, List.length_append]
                have HXB : Hid (Bytes (bss.getD k [])) := (HB k).out
                generalize bss.getD k [] = xs at *
                generalize (cat bss k).length = nk at *
                have y0 := ((G.trans HBo.out.G).cell (p := ⟨b, o + k, none⟩) hb).trans x0
                have HX := Lib.hid x1
                have hin := (P.inv _ _ _ _ _ _ HBo.out.r).2.1
                have H1 := Lib.hid (P.put wr _ F sz L l (.slice A3 xs.length c3') xs HBo.out.r (x1.grew (G.trans HBo.out.G)) HXB.out (by omega) (by omega) (fun hn b hb hFb => by have h1 := x1.lt hn b hb; have h2 := (HBo.out.hF b hFb).1; have := G.size; omega) (K.out _ _ ht (G.trans HBo.out.G)))
                clear hcell hrow x0 x1 hb
                go_wp2_with fail
                refine H1.out.mono ?_
                clear H1 y0
                rintro e w2 ⟨F2, rfl, hR2, hF2, far2⟩
                have HB2 := Lib.hid (HBo.out.turnR hR2 hF2 far2)
                have H2 := Lib.hid (ref06_Put w1.heap.size sz Lv L l2 (.slice A3 xs.length c3') xs w2 HB2.out.a (HX.out.grew (G.trans HB2.out.G)) (by omega) (by omega) (by omega) (by omega))
                clear hR2 hF2 far2 HBo
                go_wp2_with fail
                refine H2.out.mono ?_
                clear H2
                rintro e w3 ⟨L3, rfl, hA3, hL3, far3⟩
                have HB3 := Lib.hid (HB2.out.turnA P hA3 (fun b hb => .inr (hL3 b hb)) far3)
                have hm1 : (ringPut sz L xs).length = min (L.length + xs.length) sz := ringPut_length sz L xs hin
                have hov : ringOver sz L xs = L.length + xs.length - sz := rfl
                have hb1 : l + ringOver sz L xs + (ringPut sz L xs).length ≤ nk + xs.length := by omega
                have hb2 : l2 + ringOver sz L xs + (ringPut sz L xs).length ≤ nk + xs.length := by omega
                have HB4 : Hid (Both R W0 w3 (.pointer (some ⟨g, 0, none⟩)) F2 w1.heap.size sz L3 (ringPut sz L xs) (ringPut sz L xs) (l + ringOver sz L xs) (l2 + ringOver sz L xs)) := HB3.out
                clear HB3 HB2 hA3 hL3 far3 hm1 hov hin hll hll2
                generalize ringPut sz L xs = L' at *
                generalize l + ringOver sz L xs = m1 at *
                generalize l2 + ringOver sz L xs = m2 at *
                generalize hxl : xs.length = xl at *
                have hxl6 : xl ≤ 6000 := by omega
                go_wp2_with fail
                go_loopw [13] (fun i wr => ∃ (n : Nat) (F : Nat → Prop) (Lv : Value) (L : List Nat) (l l2 : Nat), n ≤ xl + sz + 1 ∧ i = .int .i64 (n : Nat) ∧ Hid (Both R W0 wr (.pointer (some ⟨g, 0, none⟩)) F w1.heap.size sz Lv L L l l2) ∧ l + L.length ≤ nk + xl ∧ l2 + L.length ≤ nk + xl) (fun i _ => xl + sz + 1 - (intOf i).toNat)
                case atStart => exact ⟨0, F2, _, L', m1, m2, by omega, rfl, HB4.out, hb1, hb2⟩
                case round =>
                  clear HB4 hb1 hb2
                  obtain ⟨n, F, Lv, L, l, l2, hn13, rfl, HBo, hb1, hb2⟩ := hrel
                  by_cases hn2 : n ≤ xl + sz
                  · have n0 : (n : Int) ≤ (xl : Int) + sz := by omega
                    obtain ⟨o', d, M, hN⟩ : ∃ o d M, nextOf sz L = (o, d, M) := ⟨_, _, _, rfl⟩
                    obtain ⟨kk, ns, ho⟩ : ∃ kk ns, frameOf o' = (kk, ns) := ⟨_, _, rfl⟩
                    obtain ⟨ok, hok⟩ : ∃ b, o'.isSome = b := ⟨_, rfl⟩
                    have hML := nextOf_length sz L
                    rw [hN] at hML
                    simp only at hML
                    obtain ⟨_, hin, hbl⟩ := P.inv _ _ _ _ _ _ HBo.out.r
                    have H1 := Lib.hid (next_is Q HBo.out.r (by omega) (K.out _ _ ht (G.trans HBo.out.G)) hN ho hok)
                    have H2 := fun (w' : World) (Lv : Value) (a : RefAt w' w1.heap.size sz Lv L l2) => Lib.hid (ref_next_is a hbl (by omega) (by omega) hN ho hok)
                    clear hN ho hok hin hbl
                    go_wp2_with fail
                    refine H1.out.mono ?_
                    clear H1
                    rintro e w4 ⟨F4, A4, c4, rfl, hrow, hkk, hown, hR4, hF4, far4⟩
                    have gA := (Grew.refl w4).alloc (.cells #[.int .u8 (kk : Nat), .slice A4 ns.length c4] 34)
                    have HB5 := Lib.hid ((HBo.out.turnR hR4 hF4 far4).grew P gA)
                    have HRA := Lib.hid (hrow.grew gA)
                    have HOA : Hid (0 < ns.length → ∀ b, (Value.slice A4 ns.length c4).ownBlock = some b → b ≠ w1.heap.size) := fun h b hb => by have := (hown h b hb).1; have := HBo.out.a.lt; omega
                    have ne4 : w4.heap.size ≠ w1.heap.size := by have := HBo.out.a.lt; have := far4.size; omega
                    clear hrow hown hR4 hF4 far4 HBo gA
                    go_wp2_with fail
                    refine (H2 _ _ HB5.out.a).out.mono ?_
                    clear H2
                    rintro e w6 ⟨A6, c6, L6, rfl, hO6, _, hA6, hb6, far6⟩
                    have gB := (Grew.refl w6).alloc (.cells #[.int .u8 (kk : Nat), .slice A6 ns.length c6] 34)
                    have HB6 := Lib.hid (HB5.out.turnA P hA6 (fun b hb => .inl (by rw [← hb6]; exact hb)) far6)
                    have lt14 : w4.heap.size < w6.heap.size := by have := far6.size; simp at this; omega
                    have t0 : (w6.alloc (.cells #[.int .u8 (kk : Nat), .slice A6 ns.length c6] 34)).cell? ⟨w4.heap.size, 0, none⟩ = some (.int .u8 (kk : Nat)) := (gB.cell (p := ⟨w4.heap.size, 0, none⟩) lt14).trans ((far6.cell (p := ⟨w4.heap.size, 0, none⟩) (by simp) ne4).trans (by simp [go_sem]))
                    have t1 : (w6.alloc (.cells #[.int .u8 (kk : Nat), .slice A6 ns.length c6] 34)).cell? ⟨w4.heap.size, 1, none⟩ = some (.slice A4 ns.length c4) := (gB.cell (p := ⟨w4.heap.size, 1, none⟩) lt14).trans ((far6.cell (p := ⟨w4.heap.size, 1, none⟩) (by simp) ne4).trans (by simp [go_sem]))
                    have RA := Lib.hid (row_farE HRA.out far6 (fun h b hb e => HOA.out h b hb e))
                    have RB := Lib.hid hO6.row
                    clear hO6 hA6 hb6 far6 HRA HOA ne4 lt14 HB5
                    go_wp2_with fail
                    have hg3 := (gB.alloc (.cells #[.int .u8 (kk : Nat), .slice A4 ns.length c4] 34)).alloc (.cells #[.int .u8 (kk : Nat), .slice A6 ns.length c6] 34)
                    refine (ref08_Same (.slice (some ⟨w6.heap.size + 1, 0, none⟩) 1 1) (.slice (some ⟨w6.heap.size + 1 + 1, 0, none⟩) 1 1) [(kk, ns)] _ (frames_mk (by simp) (by simp [go_sem]) (by simp [go_sem]) (RA.out.grew hg3) hkk) (frames_mk (by simp) (by simp [go_sem]) (by simp [go_sem]) (RB.out.grew hg3) hkk) (by simp)).mono ?_
                    rintro e w8 ⟨rfl, g8⟩
                    have HBo := Lib.hid (HB6.out.grew P (hg3.trans g8))
                    clear hg3 g8 gB t0 t1 RA RB HB6
                    have hc1 : l + M.length ≤ nk + xl := by omega
                    have hc2' : l2 + M.length ≤ nk + xl := by omega
                    cases ok
                    case true =>
                      go_wp2_with fail
                      go_roundw
                      case rel => exact ⟨n + 1, F4, L6, M, l, l2, by omega, by go_num, HBo.out, hc1, hc2'⟩
                      case measure => simp [intOf]; omega
                    case false =>
                      clear hb1 hb2 hML
                      generalize w8 = wr at *
                      generalize M = L at *
                      generalize L6 = Lv at *
                      generalize F4 = F at *
                      have hpk : L.take (sz : Int).toNat = L := List.take_of_length_le (by have := (P.inv _ _ _ _ _ _ HBo.out.r).2.1; omega)
                      have MP := fun w' (k : Grew wr w') => by
                        have h := P.peek w' _ F sz L l (sz : Nat) (HBo.out.grew P k).r (by omega) (K.out _ _ ht (G.trans (HBo.out.grew P k).G))
                        rw [hpk] at h
                        exact Lib.hid h
                      unfold Peeked at MP
                      obtain ⟨Ag, cg, rfl, hcg⟩ := HBo.out.a.row.form
                      have KS := fun w' (k : Grew wr w') => Lib.hid (And.intro (HBo.out.a.grew k).c1 (Row.string w' (HBo.out.a.grew k).row 23 5 Try.underlying23 Try.underlying5 9 Try.underlying9))
                      clear hpk hcg
                      have D := (Grew.refl wr).drew
                      go_wp2_with fail
                      go_region_held_law (fun w' => w'.cell? ⟨w1.heap.size, 1, none⟩ = some (.slice Ag L.length cg) ∧ (convert 23 9 (.slice Ag L.length cg)).run Try.prog w' = .ok (.string (strOf L)) w') (exact (KS _ D).out) (first | (go_at_call 14; refine (MP _ D).out.mono ?_; rintro e w' ⟨v6, rfl, hv6, hg⟩; replace D := D.trans hg; have q2 := Row.string w' hv6.row 23 5 Try.underlying23 Try.underlying5 9 Try.underlying9; clear hg hv6))
                      all_goals go_wp2_with fail
                      go_roundw
                      case rel => exact ⟨k + 1, F, _, L, l, l2, by omega, by go_num, HBo.out.grew P D, by rw [HLN.out]; omega, by rw [HLN.out]; omega⟩
                      case measure => simp [intOf]; omega
                  · have n0 : ¬ (n : Int) ≤ (xl : Int) + sz := by omega
                    have hpk : L.take (sz : Int).toNat = L := List.take_of_length_le (by have := (P.inv _ _ _ _ _ _ HBo.out.r).2.1; omega)
                    have MP := fun w' (k : Grew wr w') => by
                      have h := P.peek w' _ F sz L l (sz : Nat) (HBo.out.grew P k).r (by omega) (K.out _ _ ht (G.trans (HBo.out.grew P k).G))
                      rw [hpk] at h
                      exact Lib.hid h
                    unfold Peeked at MP
                    obtain ⟨Ag, cg, rfl, hcg⟩ := HBo.out.a.row.form
                    have KS := fun w' (k : Grew wr w') => Lib.hid (And.intro (HBo.out.a.grew k).c1 (Row.string w' (HBo.out.a.grew k).row 23 5 Try.underlying23 Try.underlying5 9 Try.underlying9))
                    clear hpk hcg
                    have D := (Grew.refl wr).drew
                    go_wp2_with fail
                    go_region_held_law (fun w' => w'.cell? ⟨w1.heap.size, 1, none⟩ = some (.slice Ag L.length cg) ∧ (convert 23 9 (.slice Ag L.length cg)).run Try.prog w' = .ok (.string (strOf L)) w') (exact (KS _ D).out) (first | (go_at_call 14; refine (MP _ D).out.mono ?_; rintro e w' ⟨v6, rfl, hv6, hg⟩; replace D := D.trans hg; have q2 := Row.string w' hv6.row 23 5 Try.underlying23 Try.underlying5 9 Try.underlying9; clear hg hv6))
                    all_goals go_wp2_with fail
                    go_roundw
                    case rel => exact ⟨k + 1, F, _, L, l, l2, by omega, by go_num, HBo.out.grew P D, by rw [HLN.out]; omega, by rw [HLN.out]; omega⟩
                    case measure => simp [intOf]; omega
              · go_wp2_with fail
                refine (HK _ (K.out _ _ ht (G.trans HBo.out.G))).out.mono ?_
                rintro e w2 ⟨rfl, g2⟩
                go_wp2_with fail
                go_ret
                exact ⟨rfl, (G.trans HBo.out.G).trans g2⟩
end Go.Proofs.Ytkoklmecijejkaa
