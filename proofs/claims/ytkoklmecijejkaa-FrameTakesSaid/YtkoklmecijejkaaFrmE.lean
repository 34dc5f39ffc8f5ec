/-
  The document's frames: what bytes begin, of a sentence.
-/
import Derived.Test.YtkoklmecijejkaaFrmB
import Derived.Deep.RegionLaw
import Derived.Deep.RegionWith
namespace Go.Proofs.Ytkoklmecijejkaa
open Go.RowKit
set_option linter.unusedVariables false

theorem below_push {B : Nat} {a w w' : World} {E : TypeId} {k : IntKind} {v : Value} {ns : List Nat} (h : Below B a w) (ho : Own B E k w v ns) (hg : w.grownBy w' v.ownBlock) (hB : B ≤ w.heap.size) : Below B a w' :=
  Below.grown h hg hB (fun b hb => (World.ownsRow.lt ho b hb).1)
theorem run_take (L : List Nat) (t : Nat) (h : ∀ s, s < t → may (wd L (s + 1)) = true) (hl : t + 1 ≤ L.length) : ∃ rest, (L.drop 1).takeWhile may = (L.drop 1).take t ++ rest := by
  induction t generalizing L with
  | zero => exact ⟨(L.drop 1).takeWhile may, by simp⟩
  | succ t ih =>
    match L, hl with
    | x :: y :: L, hl =>
      have h0 := h 0 (by omega)
      obtain ⟨r, hr⟩ := ih (y :: L) (fun s hs => by have := h (s + 1) (by omega); simpa [wd] using this) (by simp at hl ⊢; omega)
      simp [wd] at h0
      exact ⟨r, by simp [h0] at hr ⊢; exact hr⟩
theorem run_stop (L : List Nat) (t : Nat) (h : ∀ s, s < t → may (wd L (s + 1)) = true) (hl : t + 1 ≤ L.length) (he : t + 1 = L.length ∨ may (wd L (t + 1)) = false) : (L.drop 1).takeWhile may = (L.drop 1).take t := by
  induction t generalizing L with
  | zero =>
    match L, hl with
    | [x], _ => simp
    | x :: y :: L, _ =>
      rcases he with he | he
      · simp at he
      · simp [wd] at he; simp [he]
  | succ t ih =>
    match L, hl with
    | x :: y :: L, hl =>
      have h0 := h 0 (by omega)
      have := ih (y :: L) (fun s hs => by have := h (s + 1) (by omega); simpa [wd] using this) (by simp at hl ⊢; omega) (by
        rcases he with he | he
        · left; simpa using he
        · right; simpa [wd] using he)
      simp [wd] at h0
      simp [h0] at this ⊢
      exact this
theorem drop_take_snoc (L : List Nat) (t : Nat) (h : t + 1 < L.length) : (L.drop 1).take (t + 1) = (L.drop 1).take t ++ [wd L (t + 1)] := by
  rw [List.take_add_one, List.getElem?_drop, Nat.add_comm 1 t, List.getElem?_eq_getElem h, wd_lt h]; rfl

set_option maxRecDepth 1000000 in
set_option maxHeartbeats 4000000 in
theorem ref08_body1 (bv : Value) (L : List Nat) (size : Nat) (w : World) (hR : Row .u8 w bv L) (hB : Bytes L) (hl : L.length ≤ 5000) (h0 : 0 < L.length) (hs : size ≤ 100000) (h1 : wd L 0 = 36) :
    Calls Try.prog 42 #[bv, .int .i64 size] w (BodyTells size L w) := by
  have hb : bodyOf size L = (if 76 < ((L.drop 1).takeWhile may).length then (1, (L.drop 1).takeWhile may, false, true) else (1, (L.drop 1).takeWhile may, decide (((L.drop 1).takeWhile may).length + 1 < L.length), false)) := by
    unfold bodyOf; rw [if_pos h1]
  obtain ⟨Ax, cx, rfl, hcx, hr⟩ := hR
  obtain ⟨rb, ro, rfl, hrb, hcell⟩ := hr (by omega)
  have y0 := hcell 0 (by omega)
  rw [Nat.add_zero, h1] at y0
  have n0 : (0 : Int) < L.length := by omega
  have HC := Lib.hid hcell
  have HB := Lib.hid hB
  have HX := Lib.hid hb
  have HM := fun x w hx => Lib.hid (ref08_May x w hx)
  clear hcell hr hB hb
  go_enter Try.func42, Try.ntmps42
  go_wp2_with fail
  have B := Begun.newK w 34 1
  generalize (w.alloc (.cells #[.int .u8 0, .slice none 0 0] 34)).alloc (.cells #[.int .u8 ((1 : Nat) : Int), .slice none 0 0] 34) = W at *
  go_loopw [8] (fun i wr => ∃ (t : Nat) (v : Value), t + 1 ≤ L.length ∧ t ≤ 76 ∧ i = .int .i64 ((t : Int) + 1) ∧ Hid (∀ s, s < t → may (wd L (s + 1)) = true) ∧ Hid (Begun w wr 1 v) ∧ Hid (Own (w.heap.size + 2) 5 .u8 wr v ((L.drop 1).take t))) (fun i _ => L.length - (intOf i).toNat)
  case atStart => exact ⟨0, _, by omega, by omega, rfl, fun s hs => by omega, B, Own.nil _ _ _ _⟩
  case round =>
    clear B
    obtain ⟨t, v, ht, ht76, rfl, hM, hBg, hO⟩ := hrel
    obtain ⟨A1, k1, rfl, hk1⟩ := hO.out.row.form
    have htl : ((L.drop 1).take t).length = t := by rw [List.length_take, List.length_drop]; omega
    rw [htl] at hBg hO hk1
    have f0 := hBg.out.f0
    have f1 := hBg.out.f1
    have r0 := hBg.out.r0
    have r1 := hBg.out.r1
    have fr0 := hBg.out.fr0
    have fr1 := hBg.out.fr1
    by_cases hlt : t + 1 < L.length
    · have y := (hBg.out.g.cell (p := ⟨rb, ro + (t + 1), none⟩) hrb).trans (HC.out (t + 1) hlt)
      have hx := HB.out (t + 1)
      have i0 : (0 : Int) ≤ (t : Int) + 1 := by omega
      have i1 : (t : Int) + 1 < L.length := by omega
      by_cases hmay : may (wd L (t + 1)) = true
      · have H1 := fun w => (HM (wd L (t + 1)) w hx).out
        rw [hmay] at H1
        have HS : Hid (∀ s, s < t + 1 → may (wd L (s + 1)) = true) := fun s hs => by
          rcases Nat.lt_or_ge s t with h | h
          · exact hM.out s h
          · obtain rfl : s = t := by omega
            exact hmay
        have H1' := fun w => Lib.hid (H1 w)
        have HTK := Lib.hid (drop_take_snoc L t hlt)
        clear H1 hM hmay HB HC HM r0 r1 fr0 fr1
        generalize wd L (t + 1) = x at *
        have hO1 := (hO.out.alloc (.cells #[.int .u8 x] 5)).drew
        have hL1 := ((own_lit (B := 0) wr 5 #[.int .u8 x] [x] 1 (Nat.zero_le _) rfl rfl (by simp [maxLen])).drew).row
        have hsz := hBg.out.sz
        have BW : Below (w.heap.size + 2) wr (wr.alloc (.cells #[.int .u8 x] 5)).drew := ((Below.refl _ wr).alloc hsz _).drew
        have hsz2 : w.heap.size + 2 ≤ (wr.alloc (.cells #[.int .u8 x] 5)).drew.heap.size := Nat.le_trans hsz BW.size
        have d1 := (hBg.out.grow ((Below.refl _ wr).alloc hsz (.cells #[.int .u8 x] 5))).f1
        have HLN : Hid (((L.drop 1).take t ++ [x]).length = t + 1) := by show _ = _; rw [List.length_append, htl]; rfl
        have HT1 := Lib.hid htl
        clear htl
        generalize (L.drop 1).take t = pre at *
        go_wp2_with fail
        refine (H1' _).out.mono ?_
        rintro e w1 ⟨rfl, rfl⟩
        go_wp2_with fail
        go_region_law (refine step_joinN _ rfl _ _ 23 rfl (w.heap.size + 2) 5 .u8 1 Try.underlying23 infoU8 (.slice A1 t k1) pre rfl hO1 _ [x] rfl hL1 (by have := HT1.out; simp; omega) (by decide) hsz2 ?_; intro v1 w1 hown hgrow hnil; have hfm := hown.form (by simp); rw [HLN.out] at hfm; obtain ⟨b2, cp, rfl, hb2, hlt3⟩ := hfm; have B1 := hBg.out.grow (below_push BW hO1 hgrow hsz2); have t1 := B1.f1; have t2 := B1.ff1)
        all_goals
          have B2 := B1.body (.slice (some ⟨b2, 0, none⟩) (t + 1) cp)
          have hown2 : Own (w.heap.size + 2) 5 .u8 (w1.setCell ⟨w.heap.size + 1, 1, none⟩ (.slice (some ⟨b2, 0, none⟩) (t + 1) cp)) (.slice (some ⟨b2, 0, none⟩) (t + 1) cp) (pre ++ [x]) :=
            hown.far (Far.one w1 ⟨w.heap.size + 1, 1, none⟩ _) (fun b hb' e => by have := World.ownsRow.lt hown b hb'; simp only at e; omega)
          clear hown hgrow hnil B1 t1 t2 hO hBg hO1 hL1 d1 hsz hsz2 BW f0 f1 H1' y hb2 hlt3
          generalize w1.setCell ⟨w.heap.size + 1, 1, none⟩ (.slice (some ⟨b2, 0, none⟩) (t + 1) cp) = V2 at *
          have f0 := B2.f0
          have f1 := B2.f1
          have r0 := B2.r0
          have r1 := B2.r1
          have fr0 := B2.fr0
          have fr1 := B2.fr1
          by_cases h76 : t = 76
          · have c1 : (76 : Int) < (t : Int) + 1 := by omega
            obtain ⟨rest, hrest⟩ := run_take L (t + 1) HS.out (by omega)
            have hb : bodyOf size L = (1, (L.drop 1).takeWhile may, false, true) := by rw [HX.out, if_pos (by rw [hrest, List.length_append, HTK.out, HLN.out]; omega)]
            have HF := fun x y => Lib.hid (B2.told _ false true hb (fun h => by cases h) x y)
            clear HX hb hrest B2 hown2 HS HTK HLN HT1 h76 ht76
            go_wp2_with fail
            refine bodyPost_ret (by simp [results, Try.results42, go_sem, r0, r1]; try rfl) rfl ?_
            exact (HF _ _).out
          · have c1 : ¬ (76 : Int) < (t : Int) + 1 := by omega
            clear r0 r1 fr0 fr1 HX HT1 HLN
            go_wp2_with fail
            go_roundw
            case rel => exact ⟨t + 1, _, by omega, by omega, by simp, HS, B2, by rw [HTK.out]; exact hown2⟩
            case measure => simp [intOf]; omega
      · have hmf : may (wd L (t + 1)) = false := by simpa using hmay
        have hT := run_stop L t hM.out ht (.inr hmf)
        have hb : bodyOf size L = (1, (L.drop 1).take t, true, false) := by rw [HX.out, hT, htl, if_neg (by omega), decide_eq_true hlt]
        have HF := fun x y => Lib.hid (hBg.out.told _ true false hb (fun _ => hO.out) x y)
        have H1 := fun w => (HM (wd L (t + 1)) w hx).out
        rw [hmf] at H1
        have H1' := fun w => Lib.hid (H1 w)
        clear H1 hM hmay hmf HX HB HC hT hb hBg hO htl HM
        generalize wd L (t + 1) = x at *
        go_wp2_with fail
        refine (H1' _).out.mono ?_
        rintro e w1 ⟨rfl, rfl⟩
        go_wp2_with fail
        refine bodyPost_ret (by simp [results, Try.results42, go_sem, r0, r1]; try rfl) rfl ?_
        exact (HF _ _).out
    · have hte : t + 1 = L.length := by omega
      have hT := run_stop L t hM.out ht (.inl hte)
      have hb : bodyOf size L = (1, (L.drop 1).take t, false, false) := by rw [HX.out, hT, htl, if_neg (by omega), decide_eq_false hlt]
      have HF := fun x y => Lib.hid (hBg.out.told _ false false hb (fun _ => hO.out) x y)
      have i1 : ¬ (t : Int) + 1 < L.length := by omega
      clear hM HX HB HC hT hb hBg hO htl HM
      go_wp2_with fail
      refine bodyPost_ret (by simp [results, Try.results42, go_sem, r0, r1]; try rfl) rfl ?_
      exact (HF _ _).out
end Go.Proofs.Ytkoklmecijejkaa
