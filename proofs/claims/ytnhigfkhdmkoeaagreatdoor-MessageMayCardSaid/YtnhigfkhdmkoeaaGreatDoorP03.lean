/-
  The document's UBX messages: a payload read.
  The document's UBX messages: the same messages; a payload written.
  The document's SiRF messages: kinds; a field's bytes the other way round; the same messages.
-/
import Derived.Test.YtnhigfkhdmkoeaaGreatDoorP02
import Derived.Deep.RegionLaw
import Derived.Deep.RegionHeldLaw
import Derived.Deep.CutBlock
import Derived.Deep.DeepCutAuto
import Derived.OwnWalk

namespace Go.Proofs.YtnhigfkhdmkoeaaGreatDoor
open Go.RowKit
set_option linter.unusedVariables false

theorem infoI64 : (Tryz.prog.info? 2).map (fun i => (i.zero, i.size, i.bytes)) = some (some (.int .i64 0), 1, 8) := by kernel_rfl
/-- Fields stand in pairs, in the payload. -/
theorem lay_even (c : Nat) : (ubxLay c).2.length % 2 = 0 ∧ (ubxLay c).2.length ≤ 24 ∧ (ubxLay c).1 ≤ 92 := by
  unfold ubxLay
  (repeat' split) <;> decide
theorem lay_field (c k : Nat) (h : 2 * k + 1 < (ubxLay c).2.length) : ∃ (p m : Nat) (neg : Bool), zi (ubxLay c).2 (2 * k) = (p : Nat) ∧ zi (ubxLay c).2 (2 * k + 1) = (if neg then -(m : Int) else (m : Int)) ∧ (0 < m ∧ m ≤ 4) ∧ p + m ≤ (ubxLay c).1 := by
  have main : ∀ (z n : Int) (L : Nat), (0 ≤ z ∧ (n ≠ 0 ∧ -4 ≤ n ∧ n ≤ 4) ∧ z + n.natAbs ≤ L) → ∃ (p m : Nat) (neg : Bool), z = (p : Nat) ∧ n = (if neg then -(m : Int) else (m : Int)) ∧ (0 < m ∧ m ≤ 4) ∧ p + m ≤ L := fun z n L ⟨h1, h2, h3⟩ => by
    by_cases hn : n < 0
    · exact ⟨z.toNat, n.natAbs, true, by omega, by simp only [if_true]; omega, by omega, by omega⟩
    · exact ⟨z.toNat, n.natAbs, false, by omega, by simp only [Bool.false_eq_true, if_false]; omega, by omega, by omega⟩
  apply main
  revert k h
  have all : ∀ (n : Nat) (l : List Int), l.length ≤ 24 → (List.range 12).all (fun k => decide (l.length ≤ 2 * k + 1) || (decide (0 ≤ zi l (2 * k)) && decide (zi l (2 * k + 1) ≠ 0) && decide (-4 ≤ zi l (2 * k + 1)) && decide (zi l (2 * k + 1) ≤ 4) && decide (zi l (2 * k) + (zi l (2 * k + 1)).natAbs ≤ n))) = true →
      ∀ k, 2 * k + 1 < l.length → 0 ≤ zi l (2 * k) ∧ (zi l (2 * k + 1) ≠ 0 ∧ -4 ≤ zi l (2 * k + 1) ∧ zi l (2 * k + 1) ≤ 4) ∧ zi l (2 * k) + (zi l (2 * k + 1)).natAbs ≤ n := fun n l hl h k hk => by
    have := List.all_eq_true.1 h k (List.mem_range.2 (by omega))
    simp only [Bool.or_eq_true, Bool.and_eq_true, decide_eq_true_eq] at this
    rcases this with q | ⟨⟨⟨⟨a, b⟩, c⟩, d⟩, e⟩
    · omega
    · exact ⟨a, ⟨b, c, d⟩, e⟩
  refine all _ _ (lay_even c).2.1 ?_
  unfold ubxLay
  (repeat' split) <;> decide +kernel

theorem far_drew {F : Nat → Prop} {a w : World} (h : Far F a w) : Far F a w.drew := h.trans (Far.of_grew (Grew.refl w).drew)
theorem far_alloc {F : Nat → Prop} {a w : World} (o : Obj) (h : Far F a w) : Far F a (w.alloc o) := h.trans (Far.of_grew ((Grew.refl w).alloc o))
theorem far_set {F : Nat → Prop} {a w : World} {p : Addr} (u : Value) (hp : F p.block) (h : Far F a w) : Far F a (w.setCell p u) := h.setCell hp u
/-- A call of a Go function as one step of a region that draws, by its contract. -/
theorem step_calls {P : Program} {ops : Array Oper} {o : Oper} {a : Act} {w : World} {K : Act → World → Prop} {Q : Exit → Act → World → Prop} {X : Prop} {f : FuncId} {args : Array Value} (hgd : o.guard = none)
    (h : (execOp a.eval o).run P w = .ok (.enter f args) w) (hc : Calls P f args w fun e w' => ∃ v, e = .returned v ∧ K (a.put o.dst v) w') : if Region.wanted o (yielded ops a.tmps) = true then Oper.wp P o a w K Q else X := by
  rw [if_pos (by simp [Region.wanted, hgd])]
  unfold Oper.wp
  rw [h, Oper.upon_enter]
  refine hc.mono ?_
  rintro e w' ⟨v, rfl, hk⟩
  exact hk
/-- Three cells of a block that may be written. -/
structure ThreeAt (w : World) (b : Nat) (x y z : Value) : Prop where
  lt : b < w.heap.size
  c0 : w.cell? ⟨b, 0, none⟩ = some x
  c1 : w.cell? ⟨b, 1, none⟩ = some y
  c2 : w.cell? ⟨b, 2, none⟩ = some z
  f0 : w.frozen? ⟨b, 0, none⟩ = false
  f1 : w.frozen? ⟨b, 1, none⟩ = false
  f2 : w.frozen? ⟨b, 2, none⟩ = false
theorem ThreeAt.far {F : Nat → Prop} {w w' : World} {b : Nat} {x y z : Value} (h : ThreeAt w b x y z) (g : Far F w w') (hF : ¬ F b) : ThreeAt w' b x y z :=
  ⟨Nat.lt_of_lt_of_le h.lt g.size, (g.cell (p := ⟨b, 0, none⟩) h.lt hF).trans h.c0, (g.cell (p := ⟨b, 1, none⟩) h.lt hF).trans h.c1, (g.cell (p := ⟨b, 2, none⟩) h.lt hF).trans h.c2, (g.frozen (p := ⟨b, 0, none⟩) h.lt hF).trans h.f0, (g.frozen (p := ⟨b, 1, none⟩) h.lt hF).trans h.f1, (g.frozen (p := ⟨b, 2, none⟩) h.lt hF).trans h.f2⟩
theorem ThreeAt.grew {w w' : World} {b : Nat} {x y z : Value} (h : ThreeAt w b x y z) (g : Grew w w') : ThreeAt w' b x y z := h.far (F := fun _ => False) (Far.of_grew g) (fun q => q)
theorem three_new (w : World) (x y z : Value) (E : TypeId) : ∃ W, w.alloc (.cells #[x, y, z] E) = W ∧ Grew w W ∧ ThreeAt W w.heap.size x y z :=
  ⟨_, rfl, (Grew.refl _).alloc _, by simp, by simp [go_sem], by simp [go_sem], by simp [go_sem], by simp [go_sem], by simp [go_sem], by simp [go_sem]⟩
theorem ThreeAt.put2 {w : World} {b : Nat} {x y z : Value} (h : ThreeAt w b x y z) (u : Value) : ThreeAt (w.setCell ⟨b, 2, none⟩ u) b x y u := by
  obtain ⟨h1, h2, h3, h4, h5, h6, h7⟩ := h
  exact ⟨by simpa using h1, by simp [go_sem, h2], by simp [go_sem, h3], by simp [go_sem, h4], by simp [go_sem, h5], by simp [go_sem, h6], by simp [go_sem, h7]⟩
theorem far_of_own {B : Nat} {w w' : World} {E : TypeId} {k : IntKind} {v : Value} {zs : List Int} (ho : OwnZ B E k w v zs) (hg : w.grownBy w' v.ownBlock) : Far (fun x => B ≤ x) w w' := by
  obtain ⟨h1, h2, h3, h4, h5⟩ := hg
  exact ⟨h1, h2, h3, h4, fun k hk hne => h5 k hk (fun e => hne (ho.lt k e.symm).1)⟩
theorem three_put {w W : World} {b : Nat} (g : Grew w W) (hb : w.heap.size ≤ b) (x y z : Value) : Grew w (((W.setCell ⟨b, 0, none⟩ x).setCell ⟨b, 1, none⟩ y).setCell ⟨b, 2, none⟩ z) := ((g.setCell hb _).setCell hb _).setCell hb _
/-- What reading a payload tells. -/
def DecT (a b : Nat) (r : List Int × Nat) (w : World) (e : Ending) (w' : World) : Prop :=
  ∃ v, e = .returned (.tuple #[.agg #[.int .u8 ((if r.2 = 0 then a else 0 : Nat) : Int), .int .u8 ((if r.2 = 0 then b else 0 : Nat) : Int), v], .int .i64 (r.2 : Nat)]) ∧ RowZ .i64 w' v r.1 ∧ (0 < r.1.length → ∀ x, v.ownBlock = some x → w.heap.size ≤ x) ∧ Grew w w'
theorem decT_no {a b er : Nat} {w w' : World} (h : er ≠ 0) (g : Grew w w') : DecT a b ([], er) w (.returned (.tuple #[.agg #[.int .u8 0, .int .u8 0, .slice none 0 0], .int .i64 (er : Nat)])) w' :=
  ⟨_, by rw [if_neg h, if_neg h]; rfl, RowZ.nil _ _, (fun q => absurd q (by simp)), g⟩
set_option maxRecDepth 100000 in
set_option maxHeartbeats 4000000 in
theorem ref12_Decode (a b : Nat) (v : Value) (S : List Nat) (w : World) (ha : a < 256) (hb : b < 256) (hr : Row .u8 w v S) (hB : Bytes S) (hl : S.length ≤ 100000) :
    Calls Tryz.prog 45 #[.int .u8 (a : Nat), .int .u8 (b : Nat), v] w (DecT a b (ubxDec (a * 256 + b) S) w) := by
  have HL := fun w => ref12_Layout a b w ha hb
  obtain ⟨le1, le2, le3⟩ := lay_even (a * 256 + b)
  have HF := lay_field (a * 256 + b)
  have hdec : ubxDec (a * 256 + b) S = if (ubxLay (a * 256 + b)).1 = 0 then ([], 7) else if S.length ≠ (ubxLay (a * 256 + b)).1 then ([], 5) else (valsTo S (ubxLay (a * 256 + b)).2 ((ubxLay (a * 256 + b)).2.length / 2), 0) := rfl
  rw [hdec]
  clear hdec
  generalize (ubxLay (a * 256 + b)).1 = n at *
  generalize (ubxLay (a * 256 + b)).2 = l at *
  replace HL := fun w => Lib.hid (HL w)
  have HR := Lib.hid hr
  obtain ⟨SA, sc, rfl, hsc⟩ := hr.form
  clear hr
  go_enter Tryz.func45, Tryz.ntmps45
  go_upto_region 1 with fail
  obtain ⟨W, hW, g0, T0⟩ := three_new w (.int .u8 0) (.int .u8 0) (.slice none 0 0) 36
  rw [hW]
  clear hW
  go_upto_region 2 with (go_at_call 15; refine (HL _).out.mono ?_; rintro e w1 ⟨lv, rfl, hlv, g1⟩)
  obtain ⟨LA, lc, rfl, hlc⟩ := hlv.form
  obtain ⟨_, r0, r1, r2, q0, q1, q2⟩ := T0.grew g1
  by_cases hn0 : n = 0
  · subst hn0
    go_wp2_with fail
    refine bodyPost_ret (by simp [results, Tryz.results45, go_sem, r0, r1, r2]; try rfl) rfl ?_
    exact decT_no (by decide) (three_put (g0.trans g1) (Nat.le_refl _) _ _ _)
  · have n0 : ¬ (n : Int) = 0 := by omega
    by_cases hne : S.length ≠ n
    · have n1 : ¬ (S.length : Int) = n := by omega
      go_wp2_with fail
      refine bodyPost_ret (by simp [results, Tryz.results45, go_sem, r0, r1, r2]; try rfl) rfl ?_
      exact decT_no (by decide) (three_put (g0.trans g1) (Nat.le_refl _) _ _ _)
    · obtain rfl : n = S.length := by omega
      go_upto_region 7 with fail
      obtain ⟨V, hV, gV, TV⟩ := three_new w1 (.int .u8 (a : Nat)) (.int .u8 (b : Nat)) (.slice none 0 0) 36
      rw [hV]
      clear hV
      have FV := Far.of_grew (F := fun x => w1.heap.size ≤ x) gV
      have hw1 : w.heap.size < w1.heap.size := Nat.lt_of_lt_of_le T0.lt g1.size
      have T1 := Lib.hid (T0.grew g1)
      have GW := Lib.hid (g0.trans g1)
      have HLV := Lib.hid hlv
      have HFI := Lib.hid HF
      have HBy := Lib.hid hB
      clear T0 g0 g1 hlv HF hB r0 r1 r2 q0 q1 q2 HL gV
      go_wp2_with fail
      go_loopg [11] (l.length) (fun kx s wr => ∃ (k : Nat) (v' : Value), 2 * k + kx = l.length ∧ s = .int .i64 ((2 * k : Nat) : Int) ∧ Hid (ThreeAt wr w1.heap.size (.int .u8 (a : Nat)) (.int .u8 (b : Nat)) v') ∧ Hid (OwnZ (w1.heap.size + 1) 2 .i64 wr v' (valsTo S l k)) ∧ Hid (Far (fun x => w1.heap.size ≤ x) w1 wr))
      case atStart => exact ⟨0, _, by omega, rfl, Lib.hid TV, Lib.hid (OwnZ.nil _ _ _ _), Lib.hid FV⟩
      case round =>
        obtain ⟨k, v', hk, rfl, hT, hO, hFa⟩ := hrel
        by_cases hlt : 2 * k < l.length
        · have hlt1 : 2 * k + 1 < l.length := by omega
          obtain ⟨p, m, neg, e1, e2, hm, hpm⟩ := HFI.out k hlt1
          obtain ⟨lb, lo, rfl, hlb, hx1⟩ := HLV.out.at_ (i := 2 * k) hlt
          obtain ⟨lb', lo', e3, _, hx2⟩ := HLV.out.at_ (i := 2 * k + 1) hlt1
          cases e3
          have HG := fun w' (g : Grew wr w') => ref12_Get (.slice SA S.length sc) S p m neg w' (((HR.out.grew GW.out).far hFa.out (fun x hx h => by have := HR.out.lt (by omega) x hx; omega)).grew g) HBy.out (by omega) hm hl
          have hS := Lib.hid (show valsTo S l (k + 1) = valsTo S l k ++ [getZ S (zi l (2 * k)).toNat (zi l (2 * k + 1))] from rfl)
          have hvl := Lib.hid (valsTo_length S l k)
          rw [e1, e2, Int.toNat_natCast] at hS
          rw [e1] at hx1
          rw [e2] at hx2
          generalize (if neg then -(m : Int) else (m : Int)) = Z at *
          generalize getZ S p Z = y at *
          generalize valsTo S l k = zs at *
          replace HG := fun w' g => Lib.hid (HG w' g)
          have y1 := (hFa.out.cell (p := ⟨lb, lo + 2 * k, none⟩) hlb (by show ¬ w1.heap.size ≤ lb; omega)).trans hx1
          have y2 := (hFa.out.cell (p := ⟨lb, lo + (2 * k + 1), none⟩) hlb (by show ¬ w1.heap.size ≤ lb; omega)).trans hx2
          clear hx1 hx2 e1 e2
          obtain ⟨tl, t0, t1, t2, f0, f1, f2⟩ := hT.out
          have i1 : 2 * (k : Int) < l.length := by omega
          have i2 : 2 * (k : Int) + 1 < l.length := by omega
          have i3 : 0 ≤ 2 * (k : Int) := by omega
          have i4 : 0 ≤ 2 * (k : Int) + 1 := by omega
          have i5 : IntKind.i64.wrap (2 * (k : Int) + 1) = 2 * (k : Int) + 1 := IntWalk.i64_in _ (by omega)
          have i6 : (2 * (k : Int)).toNat = 2 * k := by omega
          have i7 : (2 * (k : Int) + 1).toNat = 2 * k + 1 := by omega
          go_wp2_with fail
          have FW := Lib.hid (Far.refl (fun x => w1.heap.size ≤ x) wr)
          have KS : ∀ w', Far (fun x => w1.heap.size ≤ x) wr w' → w'.cell? ⟨lb, lo + 2 * k, none⟩ = some (.int .i64 (p : Nat)) ∧ w'.cell? ⟨lb, lo + (2 * k + 1), none⟩ = some (.int .i64 Z) := fun w' g =>
            ⟨(g.cell (p := ⟨lb, lo + 2 * k, none⟩) (Nat.lt_of_lt_of_le hlb hFa.out.size) (by show ¬ w1.heap.size ≤ lb; omega)).trans y1, (g.cell (p := ⟨lb, lo + (2 * k + 1), none⟩) (Nat.lt_of_lt_of_le hlb hFa.out.size) (by show ¬ w1.heap.size ≤ lb; omega)).trans y2⟩
          go_region_law (first
            | (refine step_pushZ _ rfl _ _ 34 rfl (w1.heap.size + 1) 2 .i64 8 Tryz.underlying34 infoI64 v' zs rfl hOA ⟨w3.heap.size, 0, none⟩ y rfl hcA (by have := hvl.out; omega) (by decide) (Nat.succ_le_of_lt hT4.lt) ?_; intro v5 w5 hown hgrow; obtain ⟨gb, gc, rfl, hgb, hgl⟩ := hown.head (by simp); rw [List.length_append, List.length_singleton] at hown; have F5 := Far.trans (Far.of_grew (F := fun x => w1.heap.size + 1 ≤ x) g4) (far_of_own hOA hgrow); have T5 := hT4.far (far_of_own hOA hgrow) (by show ¬ w1.heap.size + 1 ≤ w1.heap.size; omega); have u2 := T5.c2; have u3 := T5.f2)
            | (refine step_calls (f := 68) (args := #[.slice SA S.length sc, .int .i64 (p : Nat), .int .i64 Z]) rfl (by simp [go_sem]; done) ((HG _ (by repeat (first | (with_reducible exact Grew.refl _) | (with_reducible refine Grew.drew ?_)))).out.mono ?_); rintro e w3 ⟨rfl, g3⟩; refine ⟨_, rfl, ?_⟩; replace g3 := Grew.trans (a := wr) (by repeat (first | (with_reducible exact Grew.refl _) | (with_reducible refine Grew.drew ?_))) g3; have g4 := g3.alloc (.cells #[.int .i64 y] 2); have hOA := hO.out.grew g4; have hcA : (w3.alloc (.cells #[.int .i64 y] 2)).cell? ⟨w3.heap.size, 0, none⟩ = some (.int .i64 y) := (by simp); have hT3 := hT.out.grew g3; have hT4 := hT.out.grew g4; have s2 := hT3.c2; have s4 := hT4.c2))
          all_goals
            have T6 := T5.put2 (.slice (some ⟨gb, 0, none⟩) (zs.length + 1) gc)
            have O6 := hown.far (Far.one w5 ⟨w1.heap.size, 2, none⟩ (.slice (some ⟨gb, 0, none⟩) (zs.length + 1) gc)) (fun b hb e => by have := hown.lt b hb; simp only at e; omega)
            have F6 := ((hFa.out.trans (F5.mono (G := fun x => w1.heap.size ≤ x) (fun x _ h => Nat.le_of_succ_le h)))).setCell (p := ⟨w1.heap.size, 2, none⟩) (Nat.le_refl _) (.slice (some ⟨gb, 0, none⟩) (zs.length + 1) gc)
            rw [← hS.out] at O6
            generalize w5.setCell ⟨w1.heap.size, 2, none⟩ (.slice (some ⟨gb, 0, none⟩) (zs.length + 1) gc) = V2 at *
            clear hown hgrow F5 T5 u2 u3 hOA hcA hT3 hT4 s2 s4 g3 g4 HG KS FW
            go_wp2_with fail
            go_roundg (l.length - 2 * (k + 1))
            case measure => omega
            case rel => exact ⟨k + 1, _, by omega, by simp; omega, Lib.hid T6, Lib.hid O6, Lib.hid F6⟩
        · have hkk : Hid (k = l.length / 2) := by show _ = _; omega
          have c1 : ¬ 2 * (k : Int) < l.length := by omega
          obtain ⟨VA, vc, rfl, _⟩ := hO.out.row.form
          obtain ⟨_, r0, r1, r2, q0, q1, q2⟩ := T1.out.far hFa.out (by show ¬ w1.heap.size ≤ w.heap.size; omega)
          obtain ⟨tl, t0, t1, t2, f0, f1, f2⟩ := hT.out
          have GR := Lib.hid (hFa.out.grew GW.out (fun x h => by have : w1.heap.size ≤ x := h; omega))
          have O6 := Lib.hid (hO.out.far ((((Far.refl (fun x => x = w.heap.size) wr).setCell (p := ⟨w.heap.size, 0, none⟩) rfl (.int .u8 (a : Nat))).setCell (p := ⟨w.heap.size, 1, none⟩) rfl (.int .u8 (b : Nat))).setCell (p := ⟨w.heap.size, 2, none⟩) rfl (.slice VA (valsTo S l k).length vc)) (fun x hx e => by have := hO.out.lt x hx; have : x = w.heap.size := e; omega))
          have OL := Lib.hid hO.out.lt
          generalize (valsTo S l k).length = vn at *
          have O7 : Hid (RowZ .i64 _ _ (valsTo S l (l.length / 2))) := Lib.hid (hkk.out ▸ O6.out.row)
          clear hT hO hFa hk hlt O6 hkk
          go_wp2_with fail
          refine bodyPost_ret (by simp [results, Tryz.results45, go_sem, r0, r1, r2]; try rfl) rfl ?_
          exact ⟨_, rfl, O7.out, fun _ x hx => by have := OL.out x hx; omega, three_put GR.out (Nat.le_refl _) _ _ _⟩
end Go.Proofs.YtnhigfkhdmkoeaaGreatDoor

namespace Go.Proofs.YtnhigfkhdmkoeaaGreatDoor
open Go.RowKit
set_option linter.unusedVariables false

-- [SAME
/-- The number whose bytes are laid. -/
def upZ (z : Int) (m : Nat) : Int := if z < 0 then z + ((256 ^ m : Nat) : Int) else z
theorem upZ_byte (z : Int) (m k : Nat) (hk : k < m) : upZ z m / ((256 ^ k : Nat) : Int) % 256 = (byteZ z k : Nat) := by
  have hpos : (0 : Int) < ((256 ^ k : Nat) : Int) := by have := Nat.pow_pos (n := k) (show 0 < 256 by decide); omega
  have e : ((256 ^ m : Nat) : Int) = ((256 ^ k : Nat) : Int) * (((256 ^ (m - k) : Nat)) : Int) := by
    rw [← Int.natCast_mul, ← Nat.pow_add, show k + (m - k) = m by omega]
  have e2 : 256 ^ (m - k) % 256 = 0 := by
    obtain ⟨j, hj⟩ : ∃ j, m - k = j + 1 := ⟨m - k - 1, by omega⟩
    rw [hj, Nat.pow_succ]; omega
  unfold byteZ upZ
  split
  · rw [e, Int.add_mul_ediv_left _ _ (by omega)]
    omega
  · omega
theorem upZ_fits {z : Int} {m : Nat} {neg : Bool} (hm : 0 < m) (h : fitsZ z (if neg then -(m : Int) else (m : Int)) = true) : 0 ≤ upZ z m ∧ upZ z m < ((256 ^ m : Nat) : Int) := by
  have he := pow_even m hm
  unfold fitsZ at h
  unfold upZ
  cases neg
  · simp only [Bool.false_eq_true, if_false] at h
    rw [if_neg (by omega)] at h
    simp only [decide_eq_true_eq, Int.natAbs_natCast] at h
    rw [if_neg (by omega)]
    exact h
  · simp only [if_true] at h
    rw [if_pos (by omega)] at h
    simp only [decide_eq_true_eq, Int.natAbs_neg, Int.natAbs_natCast] at h
    generalize 256 ^ m = q at *
    split <;> omega
theorem div_step (V : Int) (k : Nat) (h : 0 ≤ V) : (V / ((256 ^ k : Nat) : Int)).tdiv 256 = V / ((256 ^ (k + 1) : Nat) : Int) := by
  have hpos : (0 : Int) ≤ ((256 ^ k : Nat) : Int) := Int.natCast_nonneg _
  rw [Int.tdiv_eq_ediv_of_nonneg (Int.ediv_nonneg h hpos), Int.ediv_ediv_of_nonneg hpos, Nat.pow_succ, Int.natCast_mul]
  rfl
def PayR (r : List Nat × Nat) (w : World) (e : Ending) (w' : World) : Prop :=
  ∃ v, e = .returned (.tuple #[v, .int .i64 (r.2 : Nat)]) ∧ Row .u8 w' v r.1 ∧ (0 < r.1.length → ∀ x, v.ownBlock = some x → w.heap.size ≤ x) ∧ Grew w w'
theorem payR_no {er : Nat} {w w' : World} (g : Grew w w') : PayR ([], er) w (.returned (.tuple #[.slice none 0 0, .int .i64 (er : Nat)])) w' :=
  ⟨_, rfl, Row.nil _ _, (fun q => absurd q (by simp)), g⟩
-- PAYD]
end Go.Proofs.YtnhigfkhdmkoeaaGreatDoor

namespace Go.Proofs.YtnhigfkhdmkoeaaGreatDoor
open Go.RowKit
set_option linter.unusedVariables false

/-- The codes of the kinds. -/
def isSrf (c : Nat) : Prop := c = 2 ∨ c = 4 ∨ c = 7 ∨ c = 41 ∨ c = 52 ∨ c = 11 ∨ c = 12 ∨ c = 166
theorem srf_no {c : Nat} (h : ¬ isSrf c) : srfLay c = (0, []) := by
  unfold isSrf at h
  unfold srfLay
  rw [if_neg (by omega), if_neg (by omega), if_neg (by omega), if_neg (by omega), if_neg (by omega), if_neg (by omega), if_neg (by omega), if_neg (by omega)]
set_option maxHeartbeats 2000000 in
theorem ref13_Layout (c : Nat) (w : World) (hc : c < 256) :
    Calls Tryz.prog 69 #[.int .u8 (c : Nat)] w fun e w' => ∃ v, e = .returned (.tuple #[.int .i64 ((srfLay c).1 : Nat), v]) ∧ RowZ .i64 w' v (srfLay c).2 ∧ Grew w w' := by
  by_cases h : isSrf c
  · rcases h with rfl | rfl | rfl | rfl | rfl | rfl | rfl | rfl
    all_goals
      go_enter Tryz.func69, Tryz.ntmps69
      go_wp2_with fail
      go_ret2
      exact ⟨_, rfl, row_litZ' _ _ _ _ _ _ _ rfl rfl, (Grew.refl w).alloc _⟩
  · rw [srf_no h]
    unfold isSrf at h
    have k1 : ¬ (c : Int) = 2 := by omega
    have k2 : ¬ (c : Int) = 4 := by omega
    have k3 : ¬ (c : Int) = 7 := by omega
    have k4 : ¬ (c : Int) = 41 := by omega
    have k5 : ¬ (c : Int) = 52 := by omega
    have k6 : ¬ (c : Int) = 11 := by omega
    have k7 : ¬ (c : Int) = 12 := by omega
    have k8 : ¬ (c : Int) = 166 := by omega
    clear h
    go_enter Tryz.func69, Tryz.ntmps69
    go_wp2_with fail
    go_ret2
    exact ⟨_, rfl, RowZ.nil _ _, Grew.refl w⟩
set_option maxRecDepth 100000 in
set_option maxHeartbeats 2000000 in
theorem ref13_turned (v : Value) (S : List Nat) (p m : Nat) (neg : Bool) (w : World) (hr : Row .u8 w v S) (hB : Bytes S) (hp : p + m ≤ S.length) (hm : 0 < m ∧ m ≤ 4) (hl : S.length ≤ 100000) :
    Calls Tryz.prog 70 #[v, .int .i64 (p : Nat), .int .i64 (if neg then -(m : Int) else (m : Int))] w fun e w' => ∃ v', e = .returned v' ∧ Own w.heap.size 5 .u8 w' v' (turnTo S p m m) ∧ Grew w w' := by
  obtain ⟨A, c, rfl, hc, hrow⟩ := hr
  have HR := Lib.hid hrow
  have HB := Lib.hid hB
  clear hrow hB
  have c1 : ¬ (m : Int) < 0 := by omega
  have c2 : -(m : Int) < 0 := by omega
  have c3 : IntKind.i64.wrap (- -(m : Int)) = (m : Int) := by rw [Int.neg_neg]; exact IntWalk.i64_in _ (by omega)
  have c4 : - -(m : Int) = (m : Int) := Int.neg_neg _
  have c5 : IntKind.i64.wrap ((m : Int) - 1) = (m : Int) - 1 := IntWalk.i64_in _ (by omega)
  have c6 : IntKind.i64.wrap (m : Int) = (m : Int) := IntWalk.i64_in _ (by omega)
  cases neg
  all_goals
    simp only [Bool.false_eq_true, if_false, if_true]
    go_enter Tryz.func70, Tryz.ntmps70
    go_wp2_with fail
    go_loopg [7, 8] m (fun kx s t wr => ∃ k : Nat, k + kx = m ∧ Hid (Own w.heap.size 5 .u8 wr s (turnTo S p m k)) ∧ t = .int .i64 ((m : Int) - 1 - (k : Int)) ∧ Hid (Grew w wr))
    case atStart => exact ⟨0, by omega, Lib.hid (Own.nil _ _ _ _), by simp, Lib.hid (Grew.refl _)⟩
    case round =>
      obtain ⟨k, hk, hO, rfl, hg⟩ := hrel
      by_cases hlt : k < m
      · obtain ⟨b, o, rfl, hb, hcell⟩ := HR.out (by omega)
        have hx := (hg.out.cell (p := ⟨b, o + (p + (m - 1 - k)), none⟩) hb).trans (hcell (p + (m - 1 - k)) (by omega))
        have hst := Lib.hid (show turnTo S p m (k + 1) = turnTo S p m k ++ [wd S (p + (m - 1 - k))] from rfl)
        have htl := Lib.hid (turnTo_length S p m k)
        have n2 := HB.out (p + (m - 1 - k))
        generalize wd S (p + (m - 1 - k)) = x at *
        generalize turnTo S p m k = T at *
        have d0 : (0 : Int) ≤ (m : Int) - 1 - (k : Int) := by omega
        have d1 : IntKind.i64.wrap ((p : Int) + ((m : Int) - 1 - (k : Int))) = ((p + (m - 1 - k) : Nat) : Int) := by rw [IntWalk.i64_in _ (by omega)]; omega
        have d2 : (p : Int) + ((m : Int) - 1 - (k : Int)) = ((p + (m - 1 - k) : Nat) : Int) := by omega
        have d3 : ((p + (m - 1 - k) : Nat) : Int) < S.length := by omega
        have d4 : IntKind.i64.wrap ((m : Int) - 1 - (k : Int) - 1) = (m : Int) - 1 - ((k + 1 : Nat) : Int) := by rw [IntWalk.i64_in _ (by omega)]; omega
        have d5 : (m : Int) - 1 - (k : Int) - 1 = (m : Int) - 1 - ((k + 1 : Nat) : Int) := by omega
        have hgs := hg.out.size
        generalize (m : Int) - 1 - (k : Int) = J at *
        generalize p + (m - 1 - k) = q at *
        clear hcell
        go_wp2_with (refine wpList_push _ rfl _ _ 22 rfl w.heap.size 5 .u8 1 Tryz.underlying22 infoU8 _ T rfl (hO.out.alloc _) ⟨wr.heap.size, 0, none⟩ x rfl (by simp) (by rw [htl.out]; omega) (by decide) (by simp; omega) ?_; intro v1 w1 ho1 hg1)
        have hgr := Grew.push (hg.out.alloc (.cells #[.int .u8 (x : Nat)] 5)) (hO.out.alloc _) hg1
        clear hg1
        go_roundg (m - (k + 1))
        case measure => omega
        case rel => exact ⟨k + 1, by omega, Lib.hid (by rw [hst.out]; exact ho1), by rw [Int.natCast_add]; rfl, Lib.hid hgr⟩
      · obtain rfl : k = m := by omega
        have d0 : ¬ (0 : Int) ≤ (k : Int) - 1 - (k : Int) := by omega
        go_wp2_with fail
        go_ret
        exact ⟨_, rfl, hO.out, hg.out⟩
/-- Two cells of a block that may be written. -/
structure TwoC (w : World) (b : Nat) (x y : Value) : Prop where
  lt : b < w.heap.size
  c0 : w.cell? ⟨b, 0, none⟩ = some x
  c1 : w.cell? ⟨b, 1, none⟩ = some y
  f0 : w.frozen? ⟨b, 0, none⟩ = false
  f1 : w.frozen? ⟨b, 1, none⟩ = false
theorem TwoC.far {F : Nat → Prop} {w w' : World} {b : Nat} {x y : Value} (h : TwoC w b x y) (g : Far F w w') (hF : ¬ F b) : TwoC w' b x y :=
  ⟨Nat.lt_of_lt_of_le h.lt g.size, (g.cell (p := ⟨b, 0, none⟩) h.lt hF).trans h.c0, (g.cell (p := ⟨b, 1, none⟩) h.lt hF).trans h.c1, (g.frozen (p := ⟨b, 0, none⟩) h.lt hF).trans h.f0, (g.frozen (p := ⟨b, 1, none⟩) h.lt hF).trans h.f1⟩
theorem TwoC.grew {w w' : World} {b : Nat} {x y : Value} (h : TwoC w b x y) (g : Grew w w') : TwoC w' b x y := h.far (F := fun _ => False) (Far.of_grew g) (fun q => q)
theorem twoC_new (w : World) (x y : Value) (E : TypeId) : ∃ W, w.alloc (.cells #[x, y] E) = W ∧ Grew w W ∧ TwoC W w.heap.size x y :=
  ⟨_, rfl, (Grew.refl _).alloc _, by simp, by simp [go_sem], by simp [go_sem], by simp [go_sem], by simp [go_sem]⟩
theorem TwoC.put1 {w : World} {b : Nat} {x y : Value} (h : TwoC w b x y) (u : Value) : TwoC (w.setCell ⟨b, 1, none⟩ u) b x u := by
  obtain ⟨h1, h2, h3, h5, h6⟩ := h
  exact ⟨by simpa using h1, by simp [go_sem, h2], by simp [go_sem, h3], by simp [go_sem, h5], by simp [go_sem, h6]⟩
theorem twoC_put {w W : World} {b : Nat} (g : Grew w W) (hb : w.heap.size ≤ b) (x y : Value) : Grew w ((W.setCell ⟨b, 0, none⟩ x).setCell ⟨b, 1, none⟩ y) := (g.setCell hb _).setCell hb _
end Go.Proofs.YtnhigfkhdmkoeaaGreatDoor

