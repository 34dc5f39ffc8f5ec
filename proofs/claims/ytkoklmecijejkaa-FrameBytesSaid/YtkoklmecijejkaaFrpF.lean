/-
  The program's frames: the bodies of the two kinds that count their bytes.
-/
import Derived.Test.YtkoklmecijejkaaFrpE
namespace Go.Proofs.Ytkoklmecijejkaa
open Go.RowKit
set_option linter.unusedVariables false

theorem expS_one (c : Nat) (L : List Nat) (k : Nat) (hk : k ≤ L.length) : expS [c] L k = if k < L.length then (if wd L k = c then 2 else 1) else 0 := by
  have w0 : wd [c] 0 = c := rfl
  unfold expS
  by_cases h : k < L.length
  · rw [if_pos h]
    by_cases hc : wd L k = c
    · rw [if_pos hc, common_at [c] L k 1 (fun s hs => by obtain rfl : s = 0 := by omega
                                                         rw [w0, Nat.add_zero, hc]) (by simp) (by omega) (.inl (by simp)), if_pos (by simp)]
    · rw [if_neg hc, common_at [c] L k 0 (fun s hs => by omega) (by simp) (by omega) (.inr (.inr (by rw [w0, Nat.add_zero]; exact fun e => hc e.symm))), if_neg (by simp), if_pos (by omega)]
  · rw [if_neg h, common_at [c] L k 0 (fun s hs => by omega) (by simp) (by omega) (.inr (.inl (by omega))), if_neg (by simp), if_neg (by omega)]
theorem Own.prefix {w : World} {B : Nat} {E : TypeId} {k : IntKind} {g c n : Nat} {ns : List Nat} (h : Own B E k w (.slice (some ⟨g, 0, none⟩) n c) ns) (m : Nat) (hm : m ≤ ns.length) :
    Own B E k w (.slice (some ⟨g, 0, none⟩) m c) (ns.take m) := by
  obtain ⟨h1, h2⟩ := h
  have hl : (ns.take m).length = m := by rw [List.length_take]; omega
  refine ⟨by simp [cellsOf], ?_⟩
  rcases h2 with ⟨e, _⟩ | ⟨g', cap', cur, e, hb, hh, hn, hx, hs, hc⟩
  · cases e
  · cases e
    refine .inr ⟨g, c, cur, by rw [hl], hb, hh, by omega, by omega, hs, ?_⟩
    rw [hl]
    have := congrArg (List.take m) hc
    rw [List.take_take] at this
    simp only [cellsOf, Nat.mul_one] at this ⊢
    rw [Nat.min_eq_left hm] at this
    rw [this, List.map_take]
theorem Own.cells {w : World} {B : Nat} {E : TypeId} {k : IntKind} {A : Option Addr} {m c : Nat} {ns : List Nat} (h : Own B E k w (.slice A m c) ns) (hn : 0 < ns.length) :
    ∃ g, A = some ⟨g, 0, none⟩ ∧ m = ns.length ∧ ns.length ≤ c ∧ B ≤ g ∧ g < w.heap.size ∧ ∀ i, i < ns.length → w.cell? ⟨g, i, none⟩ = some (.int k (wd ns i : Nat)) := by
  obtain ⟨g, c', e0, hg1, hg2, hc⟩ := h.head (fun e => by have := h.form hn; obtain ⟨g, c', e0, _⟩ := this; rw [e] at e0; cases e0)
  simp only [Value.slice.injEq] at e0
  obtain ⟨rfl, rfl, rfl⟩ := e0
  obtain ⟨Ax, cx, e0, hcx, hr⟩ := h.row
  simp only [Value.slice.injEq] at e0
  obtain ⟨e1, -, rfl⟩ := e0
  obtain ⟨rb, ro, e2, hrb, hcell⟩ := hr hn
  rw [← e1] at e2
  cases e2
  exact ⟨g, rfl, rfl, hc, hg1, hg2, fun i hi => by have := hcell i hi; rwa [Nat.zero_add] at this⟩
def payS (L : List Nat) (size k n most : Nat) : Nat := if most < n ∨ size < n + 8 then 1 else if L.length < k + n then 0 else 2
def sirfN (L : List Nat) : Nat := 256 * wd L 2 + wd L 3
def sirfS (size : Nat) (L : List Nat) : Nat :=
  if L.length ≤ 1 then 0 else if wd L 1 ≠ 162 then 1 else if L.length < 4 then 0 else if 1023 < sirfN L ∨ size < sirfN L + 8 then 1 else if L.length < 4 + sirfN L then 0 else 2
def ubxN (L : List Nat) : Nat := 256 * wd L 5 + wd L 4
def ubxS (size : Nat) (L : List Nat) : Nat :=
  if L.length ≤ 1 then 0 else if wd L 1 ≠ 98 then 1 else if L.length < 6 then 0 else if 512 < ubxN L ∨ size < ubxN L + 8 then 1 else if L.length < 6 + ubxN L then 0 else 2
section
variable {R0 : World → Prop} {v : Value} {F : Nat → Prop} {size : Nat} {L : List Nat} {w w' : World} {a b k : Nat}
def PayU (R0 : World → Prop) (v : Value) (F : Nat → Prop) (L : List Nat) (size a b k n most : Nat) (w : World) (e : Ending) (w' : World) : Prop :=
  ∃ j A m c st ms, e = .returned (.tuple #[.slice A m c, .int .i64 (st : Nat)]) ∧ j ≤ 1023 ∧ st = payS L size k n most ∧ Row .u8 w' (.slice A m c) ms ∧ ms.length ≤ 1023 ∧ (st = 2 → j = n ∧ ms = (L.drop k).take n ∧ Own w.heap.size 5 .u8 w' (.slice A m c) ((L.drop k).take n)) ∧ AtK R0 v F w' a b (k + j) ∧ Far (fun x => x = b) w w'
theorem look_payU (P : Looked R0 v F size L) (w : World) (a b k x y most : Nat) (h : AtK R0 v F w a b k) (hk : k ≤ L.length) (hx : x < 256) (hy : y < 256) (hm : most ≤ 1023) :
    Calls Try.prog 62 #[bv a b size, .int .u8 (x : Nat), .int .u8 (y : Nat), .int .i64 (most : Nat)] w (PayU R0 v F L size a b k (256 * x + y) most w) := by
  refine (look_payload P w a b k x y most h hk hx hy hm).mono ?_
  intro e w' q
  unfold PayT at q
  by_cases hc : most < 256 * x + y ∨ size < 256 * x + y + 8
  · rw [if_pos hc] at q
    exact ⟨0, none, 0, 0, 1, [], q.1, by omega, by unfold payS; rw [if_pos hc], Row.nil _ _, by simp, fun h => by omega, h.grew P q.2, Far.of_grew q.2⟩
  · rw [if_neg hc] at q
    obtain ⟨j, A, m, c, st, rfl, hj, h1, h2, hA, hF⟩ := q
    by_cases hl : L.length < k + (256 * x + y)
    · obtain ⟨rfl, rfl⟩ := h2 hl
      exact ⟨j, A, 0, c, 0, [], rfl, by omega, by unfold payS; rw [if_neg hc, if_pos hl], ⟨A, c, rfl, by simp, fun h => by simp at h⟩, by simp, fun h => by omega, hA, hF⟩
    · obtain ⟨rfl, rfl, hO⟩ := h1 (by omega)
      exact ⟨_, A, m, c, 2, _, rfl, by omega, by unfold payS; rw [if_neg hc, if_neg hl], hO.row, by rw [List.length_take]; omega, fun _ => ⟨rfl, rfl, hO⟩, hA, hF⟩
theorem bodyT_no {w0 : World} {st j : Nat} {A : Option Addr} {m c : Nat} {ns : List Nat} {n : Nat} (x : Nat) (hs : st = x) (h2 : x ≠ 2) (hj : j ≤ 5000) (hA : AtK R0 v F w a b j) (hF : Far (fun x => x = b) w0 w) :
    BodyT R0 v F L a b st ns n w0 (.returned (.tuple #[.slice A m c, .int .i64 (x : Nat)])) w :=
  ⟨j, A, m, c, by rw [hs], hj, fun h => absurd (hs.symm.trans h) h2, hA, hF⟩

set_option maxRecDepth 100000 in
set_option maxHeartbeats 4000000 in
theorem look_sirf (P : Looked R0 v F size L) (w : World) (a b : Nat) (h : AtK R0 v F w a b 1) (h1 : 0 < L.length) :
    Calls Try.prog 60 #[bv a b size] w (BodyT R0 v F L a b (sirfS size L) ((L.drop 4).take (sirfN L)) (4 + sirfN L) w) := by
  have hL : L.length ≤ 4096 := Nat.le_trans P.ll P.ls
  have hlb := h.lb
  have hla := h.la
  obtain ⟨W, hW, gW, c0, hWlt, c1, hWs⟩ := newB w (.func (.func 37) #[] #[.pointer (some ⟨a, 0, none⟩), .pointer (some ⟨b, 0, none⟩)]) (.int .i64 (size : Nat)) 74
  have G1 := (Grew.refl W).alloc (.cells #[.int .u8 162] 5)
  have HE := Lib.hid (look_expect P _ a b 1 (.slice (some ⟨W.heap.size, 0, none⟩) 1 1) [162] (h.grew P (gW.trans G1)) (by omega) (own_lit (B := 0) W 5 #[.int .u8 162] [162] 1 (Nat.zero_le _) rfl rfl (by simp [maxLen])).row (Bytes.of_mem (by simp)) (by simp) (fun _ x hx => by simp only [Value.ownBlock, Option.some.injEq] at hx; omega))
  unfold ExpT at HE
  have HX := Lib.hid (expS_one 162 L 1 (by omega))
  obtain ⟨x, hx⟩ : ∃ x, expS [162] L 1 = x := ⟨_, rfl⟩
  rw [hx] at HE HX
  have HP := Lib.hid P
  have hWb : b < W.heap.size := by omega
  have hWa : a < W.heap.size := by omega
  have GW := Lib.hid gW
  have HG1 := Lib.hid G1
  clear hx P h hWs gW
  unfold bv at HE ⊢
  go_enter Try.func60, Try.ntmps60
  go_upto_region 1 with fail
  clear hW
  go_wp2_with fail
  refine HE.out.mono ?_
  rintro e w1 ⟨j, rfl, hj, hj2, hA1, hF1⟩
  have hj1 : j ≤ 1 := hj
  have HF1 := Lib.hid ((Far.of_grew (HG1.out)).trans hF1 : Far (fun x => x = b) W w1)
  have HA1 := Lib.hid hA1
  have d0 := (HF1.out.cell (p := ⟨w.heap.size, 0, none⟩) hWlt (by simp only; omega)).trans c0
  have d1 := (HF1.out.cell (p := ⟨w.heap.size, 1, none⟩) hWlt (by simp only; omega)).trans c1
  have hw1 : w.heap.size < w1.heap.size := Nat.lt_of_lt_of_le hWlt HF1.out.size
  clear hF1 hA1 HE c0 c1 hj
  by_cases hx2 : x = 2
  · subst hx2
    have hj' := hj2 rfl
    simp only [List.length_cons, List.length_nil] at hj'
    subst hj'
    have hl1 : 1 < L.length ∧ wd L 1 = 162 := by
      have := HX.out
      by_cases hl : 1 < L.length
      · rw [if_pos hl] at this
        by_cases hc : wd L 1 = 162
        · exact ⟨hl, hc⟩
        · rw [if_neg hc] at this; omega
      · rw [if_neg hl] at this; omega
    have hS : Hid (sirfS size L = if L.length < 4 then 0 else if 1023 < sirfN L ∨ size < sirfN L + 8 then 1 else if L.length < 4 + sirfN L then 0 else 2) := by
      show _ = _
      unfold sirfS
      rw [if_neg (by omega), if_neg (fun h => h hl1.2)]
    have HT := Lib.hid (look_take HP.out w1 a b 2 2 HA1.out (by omega) (by omega))
    unfold TakeT bv at HT
    clear hj2 HX hj1
    go_wp2_with fail
    refine HT.out.mono ?_
    rintro e w2 ⟨j, A, m, c, st, rfl, hj, hq1, hq2, hA2, hF2⟩
    clear HT
    by_cases hl4 : L.length < 4
    · obtain ⟨rfl, rfl⟩ := hq2 (by omega)
      have hS0 : sirfS size L = 0 := by rw [hS.out, if_pos hl4]
      replace hF2 := Lib.hid hF2
      replace hA2 := Lib.hid hA2
      clear hq1 hS
      go_wp2_with fail
      go_ret2
      exact bodyT_no 0 hS0 (by omega) (by omega) hA2.out (((Far.of_grew GW.out).trans HF1.out).trans hF2.out)
    · obtain ⟨rfl, rfl, hO⟩ := hq1 (by omega)
      have hS1 : Hid (sirfS size L = if 1023 < sirfN L ∨ size < sirfN L + 8 then 1 else if L.length < 4 + sirfN L then 0 else 2) := by show _ = _; rw [hS.out, if_neg hl4]
      have htk : (L.drop 2).take 2 = [wd L 2, wd L 3] := by
        rw [List.take_add_one, List.take_add_one, List.take_zero, List.getElem?_drop, List.getElem?_drop, List.getElem?_eq_getElem (by omega), List.getElem?_eq_getElem (by omega), wd_lt (by omega), wd_lt (by omega)]
        rfl
      rw [htk] at hO
      obtain ⟨g, rfl, rfl, hcc, hg1, hg2, hcell⟩ := hO.cells (by simp)
      have y0 := hcell 0 (by simp)
      have y1 := hcell 1 (by simp)
      rw [show wd [wd L 2, wd L 3] 0 = wd L 2 from rfl] at y0
      rw [show wd [wd L 2, wd L 3] 1 = wd L 3 from rfl] at y1
      rw [show [wd L 2, wd L 3].length = 2 from rfl] at hcc ⊢
      have f0 := (hF2.cell (p := ⟨w.heap.size, 0, none⟩) hw1 (by simp only; omega)).trans d0
      have f1 := (hF2.cell (p := ⟨w.heap.size, 1, none⟩) hw1 (by simp only; omega)).trans d1
      have hw2 : w.heap.size < w2.heap.size := Nat.lt_of_lt_of_le hw1 hF2.size
      have KS : ∀ w', Far (fun x => x = b) w2 w' → Hid (w'.cell? ⟨w.heap.size, 0, none⟩ = some (.func (.func 37) #[] #[.pointer (some ⟨a, 0, none⟩), .pointer (some ⟨b, 0, none⟩)]) ∧ w'.cell? ⟨w.heap.size, 1, none⟩ = some (.int .i64 (size : Nat)) ∧ w'.cell? ⟨g, 0, none⟩ = some (.int .u8 (wd L 2 : Nat)) ∧ w'.cell? ⟨g, 1, none⟩ = some (.int .u8 (wd L 3 : Nat))) := fun w' q =>
        Lib.hid ⟨(q.cell (p := ⟨w.heap.size, 0, none⟩) hw2 (by simp only; omega)).trans f0, (q.cell (p := ⟨w.heap.size, 1, none⟩) hw2 (by simp only; omega)).trans f1, (q.cell (p := ⟨g, 0, none⟩) hg2 (by simp only; omega)).trans y0, (q.cell (p := ⟨g, 1, none⟩) hg2 (by simp only; omega)).trans y1⟩
      have HPU := fun w' (q : Grew w2 w') => Lib.hid (look_payU HP.out w' a b (2 + 2) (wd L 2) (wd L 3) 1023 (hA2.grew HP.out q) (by omega) (HP.out.bytes 2) (HP.out.bytes 3) (by omega))
      have HS2 : Hid (sirfS size L = payS L size (2 + 2) (sirfN L) 1023) := hS1
      rw [show 256 * wd L 2 + wd L 3 = sirfN L from rfl] at HPU
      have hNl : sirfN L ≤ 5000 ∨ 1023 < sirfN L := by omega
      unfold PayU bv at HPU
      have hb2 := HP.out.bytes 2
      have hb3 := HP.out.bytes 3
      have G : Grew w2 w2.drew := (Grew.refl w2).drew
      have FF := Lib.hid (((Far.of_grew GW.out).trans HF1.out).trans hF2)
      generalize wd L 2 = x at *
      generalize wd L 3 = y at *
      clear hS hS1 htk hO hcell hq1 hq2 hA2 hF2 y0 y1 f0 f1 d0 d1
      go_wp2_with fail
      go_region_held3 (fun w' => w'.cell? ⟨w.heap.size, 0, none⟩ = some (.func (.func 37) #[] #[.pointer (some ⟨a, 0, none⟩), .pointer (some ⟨b, 0, none⟩)]) ∧ w'.cell? ⟨w.heap.size, 1, none⟩ = some (.int .i64 (size : Nat)) ∧ w'.cell? ⟨g, 0, none⟩ = some (.int .u8 (x : Nat)) ∧ w'.cell? ⟨g, 1, none⟩ = some (.int .u8 (y : Nat))) (first | exact (KS _ (Far.of_grew G)).out | exact (KS _ ((Far.of_grew G).trans hF3)).out) ((go_at_call 62; refine (HPU _ G).out.mono ?_; rintro e w3 ⟨j, A, m, c3, st, ms, rfl, hj3, hst, hms, hml, hO3, hA3, hF3⟩; replace hst := Lib.hid hst; replace hO3 := Lib.hid hO3))
      all_goals go_wp2_with fail
      all_goals go_ret2
      all_goals
        rw [HS2.out, ← hst.out]
        exact ⟨2 + 2 + j, A, m, c3, rfl, by omega, fun h => ⟨by rw [(hO3.out h).1], own_base (hO3.out h).2.2 (Nat.le_trans (Nat.le_of_lt hw2) G.size)⟩, hA3, (FF.out.trans (Far.of_grew G)).trans hF3⟩
  · have e2 : ¬ (x : Int) = 2 := by omega
    have e3 : ((x : Int) == 2) = false := by simpa using e2
    have hS : Hid (sirfS size L = x) := by
      show _ = _
      have := HX.out
      unfold sirfS
      by_cases hl : 1 < L.length
      · rw [if_pos hl] at this
        rw [if_neg (by omega)]
        by_cases hc : wd L 1 = 162
        · rw [if_pos hc] at this; omega
        · rw [if_neg hc] at this; rw [if_pos hc, this]
      · rw [if_neg hl] at this; rw [if_pos (by omega), this]
    go_wp2_with fail
    go_ret2
    exact bodyT_no x hS.out hx2 (by omega) HA1.out ((Far.of_grew GW.out).trans HF1.out)
end
end Go.Proofs.Ytkoklmecijejkaa
