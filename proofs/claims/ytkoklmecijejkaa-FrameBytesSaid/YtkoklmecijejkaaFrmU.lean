/-
  The walk of the law on frames side by side, out of the contracts.
-/
import Derived.Test.YtkoklmecijejkaaFrmO
namespace Go.Proofs.Ytkoklmecijejkaa
open Go.RowKit
set_option linter.unusedVariables false

/-- Frames side by side, a byte ahead of each. -/
def side (bt : Nat) : List (Nat × List Nat) → List Nat
  | [] => []
  | f :: fs => bt :: (frameRow f.1 f.2 ++ side bt fs)
theorem side_append (bt : Nat) (a b : List (Nat × List Nat)) : side bt (a ++ b) = side bt a ++ side bt b := by
  induction a with
  | nil => rfl
  | cons f a ih => simp [side, ih]
theorem side_took (size bt : Nat) (hb : bt ≠ 36 ∧ bt ≠ 181 ∧ bt ≠ 160) (fs : List (Nat × List Nat)) (h : ∀ f ∈ fs, frameErr f.1 f.2 = 0 ∧ (frameRow f.1 f.2).length ≤ size) : Took size (side bt fs) fs fs.length [] := by
  induction fs with
  | nil => exact Took.none (size := size) [] rfl
  | cons f fs ih =>
    have hN : nextOf size (side bt (f :: fs)) = (some f, 1, side bt fs) := by
      show nextOf size (bt :: (frameRow f.1 f.2 ++ side bt fs)) = _
      rw [next_between size bt _ hb, next_whole size f.1 f.2 _ (h f (by simp)).1 (h f (by simp)).2]
    have ht := Took.some (size := size) (side bt (f :: fs)) f fs fs.length [] (by rw [hN]) (by rw [hN]; exact ih (fun g hg => h g (by simp [hg])))
    rw [hN] at ht
    rw [List.length_cons, Nat.add_comm]
    exact ht
theorem take_fr {fs : List (Nat × List Nat)} {k : Nat} (h : k < fs.length) : fs.take (k + 1) = fs.take k ++ [fr fs k] := by
  rw [List.take_add_one, List.getElem?_eq_getElem h]; unfold fr; rw [List.getD_eq_getElem?_getD, List.getElem?_eq_getElem h]; rfl
theorem side_next {bt : Nat} {fs : List (Nat × List Nat)} {k : Nat} (h : k < fs.length) : side bt (fs.take (k + 1)) = side bt (fs.take k) ++ [bt] ++ frameRow (fr fs k).1 (fr fs k).2 := by
  rw [take_fr h, side_append]; simp [side]
theorem mem_fr {fs : List (Nat × List Nat)} {f : Nat × List Nat} (h : f ∈ fs) : ∃ i, i < fs.length ∧ fr fs i = f := by
  obtain ⟨i, hi, e⟩ := List.getElem_of_mem h
  exact ⟨i, hi, by unfold fr; rw [List.getD_eq_getElem?_getD, List.getElem?_eq_getElem hi]; exact e⟩
theorem row_byte (w : World) (E : TypeId) (x : Nat) : Row .u8 (w.alloc (.cells #[.int .u8 (x : Nat)] E)) (.slice (some ⟨w.heap.size, 0, none⟩) 1 1) [x] := by
  refine ⟨_, 1, rfl, by simp, fun _ => ⟨w.heap.size, 0, rfl, by simp, fun i hi => ?_⟩⟩
  obtain rfl : i = 0 := by simp at hi; omega
  simp [wd]
theorem far_push {w w' : World} {o : Option Nat} (h : w.grownBy w' o) : Far (fun b => o = some b) w w' := by
  obtain ⟨h1, h2, h3, h4, h5⟩ := h
  exact ⟨h1, h2, h3, h4, fun k hk hne => h5 k hk (fun e => hne e.symm)⟩
theorem Bytes.append {a b : List Nat} (ha : Bytes a) (hb : Bytes b) : Bytes (a ++ b) := Bytes.of_mem (fun x hx => by
  rcases List.mem_append.1 hx with h | h
  · exact ha.mem x h
  · exact hb.mem x h)

set_option maxRecDepth 1000000 in
set_option maxHeartbeats 4000000 in
theorem walk_FrameSide {R : World → Value → (Nat → Prop) → Nat → List Nat → Nat → Prop} {T : World → Prop} (P : RingCalls R T) (Q : FrameCalls R T) (lv : Value) (fs : List (Nat × List Nat)) (bt : Nat) (w : World) (ht : T w) (hF : FramesAt w lv fs) (hB : ∀ i, Bytes (fr fs i).2) (hb : bt < 256) (hn : fs.length ≤ 140737488355328) (hl : ∀ i, (fr fs i).2.length ≤ 140737488355328) :
    Calls Try.prog 5 #[lv, .int .u8 (bt : Nat)] w fun e w' => e = .returned (.bool true) ∧ Grew w w' := by
  have K := Lib.hid P.keep
  have HK := fun w ht => Lib.hid (frame_known P Q w ht)
  have HFR := Lib.hid hF
  obtain ⟨A, c, rfl, hc, _⟩ := hF
  have H0 := Lib.hid (P.new 4096 w (by omega) (by omega) ht)
  go_enter Try.func5, Try.ntmps5
  go_wp2_with fail
  refine H0.out.mono ?_
  clear H0
  rintro e w1 ⟨g, F, rfl, hR, hF, g1⟩
  have HR := Lib.hid hR
  have HF := Lib.hid hF
  have HG1 := Lib.hid g1
  clear hR hF g1
  by_cases hbad : 8 < fs.length ∨ bt = 36 ∨ bt = 181 ∨ bt = 160
  · have hbad' : (decide ((8 : Int) < fs.length) = true) ∨ (decide ((8 : Int) < fs.length) = false ∧ (bt = 36 ∨ bt = 181 ∨ bt = 160)) := by
      by_cases h : 8 < fs.length
      · left; simp; omega
      · right; exact ⟨by simp; omega, by omega⟩
    clear hbad
    rcases hbad' with h | ⟨h, rfl | rfl | rfl⟩
    all_goals
      go_wp2_with fail
      refine (HK _ (K.out _ _ ht HG1.out)).out.mono ?_
      rintro e w2 ⟨rfl, g2⟩
      go_wp2_with fail
      go_ret
      exact ⟨rfl, HG1.out.trans g2⟩
  · have h8 : fs.length ≤ 8 := by omega
    have hbt : bt ≠ 36 ∧ bt ≠ 181 ∧ bt ≠ 160 := by omega
    have c1 : decide ((8 : Int) < fs.length) = false := by simp; omega
    have c2 : ((bt : Int) == 36) = false := by simpa using (show ¬ (bt : Int) = 36 by omega)
    have c3 : ((bt : Int) == 181) = false := by simpa using (show ¬ (bt : Int) = 181 by omega)
    have c4 : ((bt : Int) == 160) = false := by simpa using (show ¬ (bt : Int) = 160 by omega)
    have HBT := Lib.hid hbt
    clear hbad hbt
    go_wp2_with fail
    go_loopw [7, 42] (fun a i wr => ∃ (k : Nat) (A' : Option Addr) (c' : Nat), k ≤ fs.length ∧ i = .int .i64 k ∧ a = .slice A' (side bt (fs.take k)).length c' ∧ Hid (Own w1.heap.size 5 .u8 wr a (side bt (fs.take k))) ∧ (side bt (fs.take k)).length ≤ k * 2011 ∧ Hid (∀ i, i < k → frameErr (fr fs i).1 (fr fs i).2 = 0 ∧ (fr fs i).2.length ≤ 2000) ∧ Hid (Bytes (side bt (fs.take k))) ∧ Hid (Grew w1 wr)) (fun _ i _ => fs.length - (intOf i).toNat)
    case atStart => exact ⟨0, none, 0, by omega, rfl, rfl, Own.nil _ _ _ _, by simp [side], fun i hi => by omega, Bytes.of_mem (by simp [side]), Grew.refl _⟩
    case round =>
      obtain ⟨k, A1, k1, hk, rfl, rfl, hO, hlen, hE, hBS, hG⟩ := hrel
      by_cases hk2 : k < fs.length
      · obtain ⟨A', c', e, _, hf⟩ := HFR.out.grew (HG1.out.trans hG.out)
        cases e
        obtain ⟨b, o, rfl, hfi⟩ := hf (by omega)
        obtain ⟨fv, hFI⟩ := hfi k hk2
        have hnx := side_next (bt := bt) hk2
        have hBk := hB k
        obtain ⟨kk, ns, hx⟩ : ∃ kk ns, fr fs k = (kk, ns) := ⟨_, _, rfl⟩
        have HX := Lib.hid hx
        rw [hx] at hFI hnx hBk
        have HFI := Lib.hid hFI
        have y0 := hFI.c0
        have y1 := hFI.c1
        obtain ⟨Af, cf, rfl, hcf⟩ := hFI.row.form
        simp only at y0 y1 hnx hBk
        have HNX := Lib.hid hnx
        have HBK := Lib.hid hBk
        have n0 : (0 : Int) ≤ k := by omega
        have n1 : (k : Int) < fs.length := by omega
        have HL : Hid ((fs.take (k + 1)).length = k + 1) := by show _ = _; rw [List.length_take]; omega
        clear hf hfi hFI hx hnx hBk hB hl
        have gA := (Grew.refl wr).alloc (.cells #[.int .u8 (kk : Nat), .slice Af ns.length cf] 34)
        have GA := Lib.hid (hG.out.trans gA)
        by_cases hbig : 2000 < ns.length
        · have d1 : (2000 : Int) < ns.length := by omega
          go_wp2_with fail
          refine (HK _ (K.out _ _ ht (HG1.out.trans GA.out))).out.mono ?_
          rintro e w2 ⟨rfl, g2⟩
          go_wp2_with fail
          go_ret
          exact ⟨rfl, HG1.out.trans (GA.out.trans g2)⟩
        · have d1 : ¬ (2000 : Int) < ns.length := by omega
          have H1 := Lib.hid (Q.bytes _ kk _ ns (HFI.out.row.grew gA) HBK.out (by omega) HFI.out.k (K.out _ _ ht (HG1.out.trans GA.out)))
          clear gA
          go_wp2_with fail
          refine H1.out.mono ?_
          clear H1
          rintro e w2 ⟨v2, rfl, hr2, hf2, g2⟩
          obtain ⟨A2, k2, rfl, hk2⟩ := hr2.form
          have HR2 := Lib.hid hr2
          have HF2 : Hid (0 < (frameBytes kk ns).length → ∀ b, (Value.slice A2 (frameBytes kk ns).length k2).ownBlock = some b → wr.heap.size < b) := fun h b hb => by have := hf2 h b hb; simp at this; omega
          have G2 := Lib.hid (GA.out.trans g2)
          have HO2 := Lib.hid ((hO.out.grew ((Grew.refl wr).alloc (.cells #[.int .u8 (kk : Nat), .slice Af ns.length cf] 34))).grew g2)
          have HFL := frame_len (k := kk) (ns := ns)
          have HBY : Hid (Bytes (frameBytes kk ns)) := frame_bytes HBK.out HFI.out.k
          clear hr2 g2 hf2
          by_cases he : frameErr kk ns = 0
          · have hfb : frameBytes kk ns = frameRow kk ns := by unfold frameBytes; rw [if_pos he]
            have hnx2 := HNX.out
            rw [← hfb] at hnx2
            have HN2 := Lib.hid hnx2
            have hz : (frameErr kk ns : Int) = 0 := by omega
            have HE := Lib.hid he
            clear he hfb hnx2 HNX
            generalize frameBytes kk ns = out at *
            generalize hS : side bt (fs.take k) = S at *
            have RB := Lib.hid (row_byte w2 5 bt)
            have gB := (Grew.refl w2).alloc (.cells #[.int .u8 (bt : Nat)] 5)
            have HO3 := Lib.hid (HO2.out.grew gB)
            have hb3 : w1.heap.size ≤ (w2.alloc (.cells #[.int .u8 (bt : Nat)] 5)).heap.size := (G2.out.trans gB).size
            have HL1 : Hid ((S ++ [bt]).length = S.length + 1) := by show _ = _; simp
            have HL2 : Hid ((S ++ [bt] ++ out).length = S.length + 1 + out.length) := by show _ = _; simp; omega
            go_wp2_with (first
              | (refine wpList_joinN _ rfl _ _ 23 rfl w1.heap.size 5 .u8 1 Try.underlying23 infoU8 (.slice A1 S.length k1) S rfl HO3.out _ [bt] rfl RB.out (by simp; omega) (by decide) hb3 ?_; intro v3 w3 hown hgrow hnil; have G3 := Grew.push (G2.out.trans gB) HO3.out hgrow; have hrow3 : Row .u8 w3 (.slice A2 out.length k2) out := row_farE (HR2.out.grew gB) (far_push hgrow) (fun hn b hb e => by have h1 := HF2.out hn b hb; have h2 := World.ownsRow.lt hO.out b e; omega); obtain ⟨A3, k3, e3, hk3⟩ := hown.row.form; rw [HL1.out] at e3; subst e3)
              | (refine wpList_joinN _ rfl _ _ 23 rfl w1.heap.size 5 .u8 1 Try.underlying23 infoU8 (.slice A3 (S.length + 1) k3) (S ++ [bt]) rfl hown _ out rfl hrow3 (by rw [HL1.out]; simp; omega) (by decide) G3.size ?_; intro v4 w4 hown4 hgrow4 hnil4; have G4 := Grew.push G3 hown hgrow4; obtain ⟨A4, k4, e4, hk4⟩ := hown4.row.form; rw [HL2.out] at e4; subst e4))
            go_roundw
            case rel =>
              refine ⟨k + 1, A4, k4, by omega, by simp, by rw [HN2.out, HL2.out], by rw [HN2.out]; exact hown4, by rw [HN2.out, HL2.out]; omega, fun i hi => ?_, by rw [HN2.out]; exact (hBS.append (Bytes.of_mem (by simpa using hb))).append HBY.out, G4⟩
              rcases Nat.lt_or_ge i k with h | h
              · exact hE.out i h
              · obtain rfl : i = k := by omega
                rw [HX.out]; exact ⟨HE.out, by simp only; omega⟩
            case measure => simp [intOf]; omega
          · have hz : ¬ (frameErr kk ns : Int) = 0 := by omega
            go_wp2_with fail
            refine (HK _ (K.out _ _ ht (HG1.out.trans G2.out))).out.mono ?_
            rintro e w3 ⟨rfl, g3⟩
            go_wp2_with fail
            go_ret
            exact ⟨rfl, HG1.out.trans (G2.out.trans g3)⟩
      · obtain rfl : k = fs.length := by omega
        rw [List.take_length] at hO hlen hBS
        have HT : Hid (Took 4096 (side bt fs) fs fs.length []) := side_took 4096 bt HBT.out fs (fun f hf => by
          obtain ⟨i, hi, e⟩ := mem_fr hf
          have h := hE.out i hi
          rw [e] at h
          have hl := frame_len (k := f.1) (ns := f.2)
          unfold frameBytes at hl
          rw [if_pos h.1] at hl
          exact ⟨h.1, by omega⟩)
        have HTL : Hid (side bt (fs.take fs.length) = side bt fs) := by show _ = _; rw [List.take_length]
        clear hE hB hl
        simp only [HTL.out]
        clear HTL
        generalize hS : side bt fs = S at *
        by_cases hbig : 4000 < S.length
        · have d1 : (4000 : Int) < S.length := by omega
          go_wp2_with fail
          refine (HK _ (K.out _ _ ht (HG1.out.trans hG.out))).out.mono ?_
          rintro e w2 ⟨rfl, g2⟩
          go_wp2_with fail
          go_ret
          exact ⟨rfl, HG1.out.trans (hG.out.trans g2)⟩
        · have d1 : ¬ (4000 : Int) < S.length := by omega
          have lt1 : Hid (∀ b, F b → b < w1.heap.size) := fun b hb => P.lt _ _ _ _ _ _ b HR.out hb
          have h1 := P.put wr _ F 4096 [] 0 (.slice A1 S.length k1) S (P.grew HR.out hG.out) hO.out.row hBS.out (by omega) (by omega) (fun hn b hb hFb => by have h2 := World.ownsRow.lt hO.out b hb; have := lt1.out b hFb; omega) (K.out _ _ ht (HG1.out.trans hG.out))
          have e1 : ringOver 4096 [] S = 0 := by unfold ringOver; simp; omega
          have e2 : ringPut 4096 [] S = S := by unfold ringPut; rw [e1]; simp
          rw [e1, e2] at h1
          have H1 := Lib.hid h1
          clear h1 e1 e2 hO hBS
          go_wp2_with fail
          refine H1.out.mono ?_
          clear H1
          rintro e w2 ⟨F2, rfl, hR2, hF2, far2⟩
          have G2 := Lib.hid (far2.grew (HG1.out.trans hG.out) (fun b hb => HF.out b hb))
          have HF2 : Hid (∀ b, F2 b → w.heap.size ≤ b) := fun b hb => by
            rcases hF2 b hb with h | h
            · exact HF.out b h
            · exact Nat.le_trans (HG1.out.trans hG.out).size h
          have H2 := Lib.hid (Q.all w2 _ F2 4096 S _ hR2 (by omega) (K.out _ _ ht G2.out))
          clear hR2 hF2 far2
          go_wp2_with fail
          refine H2.out.mono ?_
          clear H2
          rintro e w3 ⟨F3, lv', fs', d, rest, rfl, hT, hFr, hR3, hF3, far3⟩
          obtain ⟨rfl, rfl, rfl⟩ := HT.out.det hT
          have G3 := Lib.hid (far3.grew G2.out (fun b hb => HF2.out b hb))
          have HR3 := Lib.hid hR3
          have HFr := Lib.hid hFr.at_
          obtain ⟨A3, k3, rfl, hk3, _⟩ := hFr
          have HLN := fun w' (g : Grew w3 w') => Lib.hid (P.len _ _ _ _ _ _ (P.grew HR3.out g) (K.out _ _ ht (G3.out.trans g)))
          clear hT hR3 hF3 far3 HF2 G2
          go_wp2_with fail
          refine (ref08_Same _ _ fs w3 HFr.out (HFR.out.grew G3.out) (by omega)).mono ?_
          rintro e w4 ⟨rfl, g4⟩
          go_wp2_with fail
          refine (HLN _ g4).out.mono ?_
          clear HLN
          rintro e w5 ⟨rfl, g5⟩
          go_wp2_with fail
          refine (HK _ (K.out _ _ ht (G3.out.trans (g4.trans g5)))).out.mono ?_
          rintro e w6 ⟨rfl, g6⟩
          go_wp2_with fail
          go_ret
          exact ⟨rfl, (G3.out.trans (g4.trans g5)).trans g6⟩
end Go.Proofs.Ytkoklmecijejkaa
