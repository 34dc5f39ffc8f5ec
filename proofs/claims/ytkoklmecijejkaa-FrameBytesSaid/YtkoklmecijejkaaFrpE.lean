/-
  The program's frames: the body of a sentence.
-/
import Derived.Test.YtkoklmecijejkaaFrpD
import Derived.Test.YtkoklmecijejkaaFrpA
import Derived.Test.YtkoklmecijejkaaFrmE
namespace Go.Proofs.Ytkoklmecijejkaa
open Go.RowKit
set_option linter.unusedVariables false

theorem far_own {B : Nat} {w w' : World} {E : TypeId} {k : IntKind} {v : Value} {ns : List Nat} (ho : Own B E k w v ns) (hg : w.grownBy w' v.ownBlock) : Far (fun x => B ≤ x) w w' := by
  obtain ⟨h1, h2, h3, h4, h5⟩ := hg
  exact ⟨h1, h2, h3, h4, fun k hk hne => h5 k hk (fun e => hne (World.ownsRow.lt ho k e.symm).1)⟩
section
variable {R0 : World → Prop} {v : Value} {F : Nat → Prop} {size : Nat} {L : List Nat} {w w' : World} {a b k : Nat}
theorem Far.beyond {G : Nat → Prop} {w0 : World} (h : Far F w0 w) (g : Far G w w') (hG : ∀ x, G x → F x ∨ w0.heap.size ≤ x) : Far F w0 w' :=
  ⟨g.os.trans h.os, g.tape.trans h.tape, g.output.trans h.output, Nat.le_trans h.size g.size, fun x hx hF => (g.block x (Nat.lt_of_lt_of_le hx h.size) (fun e => by rcases hG x e with h' | h'; · exact hF h'
                                                                                                                                                                    · omega)).trans (h.block x hx hF)⟩
/-- The body of a sentence, behind its first byte. -/
def BodyT (R0 : World → Prop) (v : Value) (F : Nat → Prop) (L : List Nat) (a b : Nat) (st : Nat) (ns : List Nat) (n : Nat) (w : World) (e : Ending) (w' : World) : Prop :=
  ∃ j A m c, e = .returned (.tuple #[.slice A m c, .int .i64 (st : Nat)]) ∧ j ≤ 5000 ∧ (st = 2 → j = n ∧ Own w.heap.size 5 .u8 w' (.slice A m c) ns) ∧ AtK R0 v F w' a b j ∧ Far (fun x => x = b) w w'
/-- What it is: 2 whole, 1 wrong, 0 short. -/
def nmeaS (L : List Nat) : Nat :=
  if 76 < ((L.drop 1).takeWhile may).length then 1
  else if ((L.drop 1).takeWhile may).length + 1 < L.length then (if wd L (((L.drop 1).takeWhile may).length + 1) = 42 then 2 else 1)
  else 0
theorem may42 : may 42 = false := by decide

set_option maxRecDepth 100000 in
set_option maxHeartbeats 4000000 in
theorem look_nmea (P : Looked R0 v F size L) (w : World) (a b : Nat) (h : AtK R0 v F w a b 1) (h1 : 0 < L.length) :
    Calls Try.prog 58 #[bv a b size] w (BodyT R0 v F L a b (nmeaS L) ((L.drop 1).takeWhile may) (((L.drop 1).takeWhile may).length + 2) w) := by
  have hL : L.length ≤ 4096 := Nat.le_trans P.ll P.ls
  have HN := fun w' j (q : AtK R0 v F w' a b j) (hj : j ≤ 50000) => Lib.hid (look_next P w' a b j q hj)
  have HL := Lib.hid P.bytes
  have HP := Lib.hid P
  have HA := Lib.hid h
  have HM := fun x w hx => Lib.hid (prog_inNMEA x w hx)
  have hlb := h.lb
  have HLT := Lib.hid (fun x (hx : F x) => P.lt w x h.r hx)
  have HLA := Lib.hid h.la
  unfold bv
  clear h P
  go_enter Try.func58, Try.ntmps58
  go_upto_region 1 with fail
  obtain ⟨W, hW, gW, c0, hWlt, hW1, hWs⟩ := newB w (.func (.func 37) #[] #[.pointer (some ⟨a, 0, none⟩), .pointer (some ⟨b, 0, none⟩)]) (.int .i64 (size : Nat)) 74
  rw [hW]
  have HA0 := Lib.hid (HA.out.grew HP.out gW)
  have hWs2 : w.heap.size + 1 ≤ W.heap.size := by omega
  clear hW hW1 hWs
  go_wp2_with fail
  go_loopw [4] (fun s wr => ∃ (t : Nat) (u : Value), t + 1 ≤ L.length ∧ t ≤ 76 ∧ s = u ∧ Hid (∀ s, s < t → may (wd L (s + 1)) = true) ∧ Hid (Own (w.heap.size + 1) 5 .u8 wr u ((L.drop 1).take t)) ∧ Hid (AtK R0 v F wr a b (t + 1)) ∧ Hid (Far (fun x => x = b) w wr) ∧ Hid (wr.cell? ⟨w.heap.size, 0, none⟩ = some (.func (.func 37) #[] #[.pointer (some ⟨a, 0, none⟩), .pointer (some ⟨b, 0, none⟩)])) ∧ w.heap.size + 1 ≤ wr.heap.size) (fun s _ => 100 - (match s with | .slice _ n _ => n | _ => 0))
  case atStart => exact ⟨0, _, by omega, by omega, rfl, fun s hs => by omega, Own.nil _ _ _ _, HA0.out, Far.of_grew gW, c0, hWs2⟩
  case round =>
    clear HA0 c0 hWlt hWs2
    obtain ⟨t, u, ht, ht76, rfl, hM, hO, hA, hF, hD, hws⟩ := hrel
    have htl : ((L.drop 1).take t).length = t := by rw [List.length_take, List.length_drop]; omega
    obtain ⟨A1, k1, rfl, hk1⟩ := hO.out.row.form
    rw [htl] at hO hk1 ⊢
    have d0 := hD.out
    have H1 := HN wr (t + 1) hA.out (by omega)
    unfold NextT at H1
    by_cases hlt : t + 1 < L.length
    · have hd : decide (t + 1 < L.length) = true := decide_eq_true hlt
      rw [hd] at H1
      clear hd
      have hx := HL.out (t + 1)
      by_cases h42 : wd L (t + 1) = 42
      · have hT := Lib.hid (run_stop L t hM.out ht (.inr (by rw [h42]; exact may42)))
        have hE : Hid (nmeaS L = 2) := by
          show _ = _
          unfold nmeaS
          rw [hT.out, htl, if_neg (by omega), if_pos hlt, if_pos h42]
        rw [h42] at H1
        have HT1 := Lib.hid htl
        clear hM HM hx h42 htl
        go_wp2_with fail
        refine H1.out.mono ?_
        rintro e w1 ⟨rfl, hA1, hF1⟩
        replace hA1 := Lib.hid hA1
        have hO1 := Lib.hid (hO.out.far hF1 (fun y hy e => by have := (World.ownsRow.lt hO.out y hy).1; omega))
        replace hF1 := Lib.hid hF1
        go_wp2_with fail
        go_ret2
        rw [hE.out, hT.out]
        exact ⟨t + 1 + 1, A1, t, k1, rfl, by omega, fun _ => ⟨by rw [HT1.out], own_base hO1.out (by omega)⟩, hA1.out, hF.out.trans hF1.out⟩
      · have e1 : ¬ ((wd L (t + 1) : Nat) : Int) = 42 := by omega
        have e2 : (((wd L (t + 1) : Nat) : Int) == 42) = false := by simpa using e1
        by_cases hmay : may (wd L (t + 1)) = true
        · have H2 := fun w => (HM (wd L (t + 1)) w hx).out
          rw [hmay] at H2
          have H2' := fun w => Lib.hid (H2 w)
          have HS : Hid (∀ s, s < t + 1 → may (wd L (s + 1)) = true) := fun s hs => by
            rcases Nat.lt_or_ge s t with h | h
            · exact hM.out s h
            · obtain rfl : s = t := by omega
              exact hmay
          have HTK := Lib.hid (drop_take_snoc L t hlt)
          have HT1 := Lib.hid htl
          clear H2 hM hmay HM h42 htl
          by_cases h76 : t = 76
          · obtain ⟨rest, hrest⟩ := run_take L (t + 1) HS.out (by omega)
            have hE : Hid (nmeaS L = 1) := by
              show _ = _
              unfold nmeaS
              rw [if_pos (by rw [hrest, List.length_append, HTK.out, List.length_append, HT1.out]; simp only [List.length_cons, List.length_nil]; omega)]
            subst h76
            clear hrest HTK HS hO
            generalize wd L (76 + 1) = x at *
            go_wp2_with fail
            refine H1.out.mono ?_
            rintro e w1 ⟨rfl, hA1, hF1⟩
            replace hA1 := Lib.hid hA1
            replace hF1 := Lib.hid hF1
            go_wp2_with fail
            refine (H2' _).out.mono ?_
            rintro e w2 ⟨rfl, rfl⟩
            go_wp2_with fail
            go_ret2
            rw [hE.out]
            exact ⟨76 + 1 + 1, none, 0, 0, rfl, by omega, fun h => by omega, hA1.out, hF.out.trans hF1.out⟩
          · have c1 : ¬ (t : Int) = 76 := by omega
            have c2 : ((t : Int) == 76) = false := by simpa using c1
            generalize wd L (t + 1) = x at *
            go_wp2_with fail
            refine H1.out.mono ?_
            rintro e w1 ⟨rfl, hA1, hF1⟩
            have hO1 := (hO.out.far hF1 (fun y hy e => by have := (World.ownsRow.lt hO.out y hy).1; omega))
            have hlw : w.heap.size < wr.heap.size := World.block_lt_of_cell? wr ⟨w.heap.size, 0, none⟩ d0
            have d1 := (hF1.cell (p := ⟨w.heap.size, 0, none⟩) hlw (by simp only; omega)).trans d0
            have hs1 : w.heap.size + 1 ≤ w1.heap.size := Nat.le_trans hws hF1.size
            have hA1 := Lib.hid hA1
            have hF2 := Lib.hid (hF.out.trans hF1)
            go_wp2_with fail
            refine (H2' _).out.mono ?_
            rintro e w2 ⟨rfl, rfl⟩
            have hL1 := Lib.hid (own_lit (B := 0) w1 5 #[.int .u8 x] [x] 1 (Nat.zero_le _) rfl rfl (by simp [maxLen])).row
            have G1 := (Grew.refl w1).alloc (.cells #[.int .u8 x] 5)
            have hO2 := hO1.alloc (.cells #[.int .u8 x] 5)
            have HLN : Hid (((L.drop 1).take t).length = t) := HT1
            clear HT1 hO hO1 d0 hF1 hA hF hD
            go_wp2_with (refine wpList_joinN _ rfl _ _ 23 rfl (w.heap.size + 1) 5 .u8 1 Try.underlying23 infoU8 (.slice A1 t k1) _ rfl hO2 _ [x] rfl hL1.out (by have := HLN.out; simp only [List.length_cons, List.length_nil]; omega) (by decide) (by have := G1.size; omega) ?_; intro v3 w3 hown hgrow hnil; have hfm := hown.form (by simp); rw [List.length_append, HLN.out] at hfm; obtain ⟨b2, c2', rfl, hb2, hlt3⟩ := hfm)
            have hFO := far_own hO2 hgrow
            have hA3 := Lib.hid ((hA1.out.grew HP.out G1).far HP.out hFO (fun y hy => ⟨fun e => by have := HLA.out; omega, fun e => by omega, fun e => by have := HLT.out y e; omega⟩))
            have hF3 := Lib.hid ((hF2.out.trans (Far.of_grew G1)).beyond hFO (fun y hy => .inr (by omega)))
            have d3 : Hid (w3.cell? ⟨w.heap.size, 0, none⟩ = some (.func (.func 37) #[] #[.pointer (some ⟨a, 0, none⟩), .pointer (some ⟨b, 0, none⟩)])) :=
              (hFO.cell (p := ⟨w.heap.size, 0, none⟩) (by have := G1.size; simp only; omega) (by simp only; omega)).trans ((G1.cell (p := ⟨w.heap.size, 0, none⟩) (by simp only; omega)).trans d1)
            have hs3 : w.heap.size + 1 ≤ w3.heap.size := Nat.le_trans (Nat.le_trans hs1 G1.size) hFO.size
            rw [← HTK.out] at hown
            clear hFO hA1 hF2 d1 hgrow hnil hO2 hL1 G1 hb2 hlt3
            go_roundw
            case rel => exact ⟨t + 1, _, by omega, by omega, rfl, HS, hown, hA3, hF3, d3, hs3⟩
            case measure => simp; omega
        · have hmf : may (wd L (t + 1)) = false := by simpa using hmay
          have H2 := fun w => (HM (wd L (t + 1)) w hx).out
          rw [hmf] at H2
          have H2' := fun w => Lib.hid (H2 w)
          have hT := Lib.hid (run_stop L t hM.out ht (.inr hmf))
          have hE : Hid (nmeaS L = 1) := by
            show _ = _
            unfold nmeaS
            rw [hT.out, htl, if_neg (by omega), if_pos hlt, if_neg h42]
          clear H2 hM hmay HM h42 htl hT hmf
          generalize wd L (t + 1) = x at *
          go_wp2_with fail
          refine H1.out.mono ?_
          rintro e w1 ⟨rfl, hA1, hF1⟩
          replace hA1 := Lib.hid hA1
          replace hF1 := Lib.hid hF1
          go_wp2_with fail
          refine (H2' _).out.mono ?_
          rintro e w2 ⟨rfl, rfl⟩
          go_wp2_with fail
          go_ret2
          rw [hE.out]
          exact ⟨t + 1 + 1, none, 0, 0, rfl, by omega, fun h => by omega, hA1.out, hF.out.trans hF1.out⟩
    · have hd : decide (t + 1 < L.length) = false := decide_eq_false hlt
      rw [hd] at H1
      have hT := Lib.hid (run_stop L t hM.out ht (.inl (by omega)))
      have hE : Hid (nmeaS L = 0) := by
        show _ = _
        unfold nmeaS
        rw [hT.out, htl, if_neg (by omega), if_neg hlt]
      clear hM HM htl hT hd
      generalize wd L (t + 1) = x at *
      go_wp2_with fail
      refine H1.out.mono ?_
      rintro e w1 ⟨rfl, hA1, hF1⟩
      replace hA1 := Lib.hid hA1
      replace hF1 := Lib.hid hF1
      go_wp2_with fail
      go_ret2
      rw [hE.out]
      exact ⟨t + 1 + 1, none, 0, 0, rfl, by omega, fun h => by omega, hA1.out, hF.out.trans hF1.out⟩
end
end Go.Proofs.Ytkoklmecijejkaa
