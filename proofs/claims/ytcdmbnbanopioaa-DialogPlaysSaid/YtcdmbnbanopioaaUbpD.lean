/-
  The program's UBX messages: a payload read.
-/
import Derived.Test.YtcdmbnbanopioaaUbpL
import Derived.Test.YtcdmbnbanopioaaUbpR
import Derived.OwnWalk
namespace Go.Proofs.Ytcdmbnbanopioaa
open Go.RowKit
set_option linter.unusedVariables false

theorem made_one (x : Value) (n : Nat) (h : x.cells = #[x]) : (madeCells x.cells (n * 1)).toList = List.replicate n x := by
  rw [h, Nat.mul_one]
  unfold madeCells
  refine List.ext_getElem (by simp) fun i h1 h2 => ?_
  simp [Nat.mod_one]
section
variable {P : Program} (w : World)
/-- 'make([]T, n)' of integers, n a variable. -/
theorem wpList_makeZ {ops : Array Oper} {rest : List Oper} {o : Oper} {a : Act} {Q : Exit → Act → World → Prop} (hgd : o.guard = none) (l c : Operand) (t : TypeId) (hop : o.op = .makeSlice t l c)
    (base : Nat) (E : TypeId) (k : IntKind) (bytes : Nat) (ht : P.underlying t = some (.slice E)) (hi : (P.info? E).map (fun i => (i.zero, i.size, i.bytes)) = some (some (.int k 0), 1, bytes))
    (n : Nat) (hl : a.eval l = .int .i64 (n : Nat)) (hc : a.eval c = .int .i64 (n : Nat)) (hb : bytes * n ≤ 281474976710656) (hm : n ≤ maxLen) (hbase : base ≤ w.heap.size)
    (h : ∀ w', OwnZ base E k w' (.slice (some ⟨w.heap.size, 0, none⟩) n n) (List.replicate n 0) → Grew w w' → wpList P ops Q rest (a.put o.dst (.slice (some ⟨w.heap.size, 0, none⟩) n n)) w') : wpList P ops Q (o :: rest) a w := by
  obtain ⟨i, hi0, hz0, hz1, hz2⟩ := info_parts hi
  refine wpList_make_full w hgd l c t hop base E i (.int k 0) 1 ht hi0 hz0 hz1 .i64 .i64 _ _ n hl hc rfl rfl (by rw [hz2]; exact hb) hm hbase fun w' h1 h2 => h w' ?_ ?_
  · rw [made_one _ _ rfl] at h1
    unfold OwnZ
    rw [List.length_replicate, show cellsZ k (List.replicate n 0) = List.replicate n (.int k 0) by simp [cellsZ]]
    exact h1
  · exact Below.grown (Grew.refl w) h2 (Nat.le_refl _) (fun b hb => by cases hb)
theorem wpList_makeN {ops : Array Oper} {rest : List Oper} {o : Oper} {a : Act} {Q : Exit → Act → World → Prop} (hgd : o.guard = none) (l c : Operand) (t : TypeId) (hop : o.op = .makeSlice t l c)
    (base : Nat) (E : TypeId) (k : IntKind) (bytes : Nat) (ht : P.underlying t = some (.slice E)) (hi : (P.info? E).map (fun i => (i.zero, i.size, i.bytes)) = some (some (.int k 0), 1, bytes))
    (n : Nat) (hl : a.eval l = .int .i64 (n : Nat)) (hc : a.eval c = .int .i64 (n : Nat)) (hb : bytes * n ≤ 281474976710656) (hm : n ≤ maxLen) (hbase : base ≤ w.heap.size)
    (h : ∀ w', Own base E k w' (.slice (some ⟨w.heap.size, 0, none⟩) n n) (List.replicate n 0) → Grew w w' → wpList P ops Q rest (a.put o.dst (.slice (some ⟨w.heap.size, 0, none⟩) n n)) w') : wpList P ops Q (o :: rest) a w := by
  obtain ⟨i, hi0, hz0, hz1, hz2⟩ := info_parts hi
  refine wpList_make_full w hgd l c t hop base E i (.int k 0) 1 ht hi0 hz0 hz1 .i64 .i64 _ _ n hl hc rfl rfl (by rw [hz2]; exact hb) hm hbase fun w' h1 h2 => h w' ?_ ?_
  · rw [made_one _ _ rfl] at h1
    unfold Own
    rw [List.length_replicate, show cellsOf k (List.replicate n 0) = List.replicate n (.int k 0) by simp [cellsOf]]
    exact h1
  · exact Below.grown (Grew.refl w) h2 (Nat.le_refl _) (fun b hb => by cases hb)
end
/-- A number of the row is written over. -/
theorem OwnZ.set {w : World} {B : Nat} {E : TypeId} {k : IntKind} {g c n : Nat} {zs : List Int} (h : OwnZ B E k w (.slice (some ⟨g, 0, none⟩) n c) zs) (j : Nat) (x : Int) (hj : j < zs.length) :
    OwnZ B E k (w.setCell ⟨g, j, none⟩ (.int k x)) (.slice (some ⟨g, 0, none⟩) n c) (zs.set j x) := by
  unfold OwnZ at h ⊢
  rw [List.length_set]
  have hn : n = zs.length := by
    rcases h.2 with ⟨h', _⟩ | ⟨g', cap', cur, h', _⟩
    · simp at h'
    · simp only [Value.slice.injEq] at h'; exact h'.2.1
  subst hn
  have := (World.ownsRow.stored h j (.int k x)).1
  rwa [show (cellsZ k zs).set j (.int k x) = cellsZ k (zs.set j x) by simp [cellsZ, List.map_set]] at this
theorem OwnZ.cellAt {w : World} {B : Nat} {E : TypeId} {k : IntKind} {g c n : Nat} {zs : List Int} (h : OwnZ B E k w (.slice (some ⟨g, 0, none⟩) n c) zs) (hn : n = zs.length) (j : Nat) (hj : j < zs.length) : w.cell? ⟨g, j, none⟩ = some (.int k (zi zs j)) ∧ w.frozen? ⟨g, j, none⟩ = false := by
  subst hn
  unfold OwnZ at h
  refine ⟨?_, World.ownsRow.frozenAt h j⟩
  rw [World.ownsRow.cellAt h j (by omega)]
  simp [cellsZ, zi, hj]
theorem Own.cellAt {w : World} {B : Nat} {E : TypeId} {k : IntKind} {g c n : Nat} {ns : List Nat} (h : Own B E k w (.slice (some ⟨g, 0, none⟩) n c) ns) (hn : n = ns.length) (j : Nat) (hj : j < ns.length) : w.cell? ⟨g, j, none⟩ = some (.int k (wd ns j : Nat)) ∧ w.frozen? ⟨g, j, none⟩ = false := by
  subst hn
  unfold Own at h
  refine ⟨?_, World.ownsRow.frozenAt h j⟩
  rw [World.ownsRow.cellAt h j (by omega)]
  simp [cellsOf, wd, hj]
/-- The values of the first so many fields, noughts behind. -/
def valsPad (S : List Nat) (l : List Int) (K k : Nat) : List Int := valsTo S l k ++ List.replicate (K - k) 0
theorem valsPad_length (S : List Nat) (l : List Int) (K k : Nat) (h : k ≤ K) : (valsPad S l K k).length = K := by
  unfold valsPad
  rw [List.length_append, valsTo_length, List.length_replicate]
  omega
theorem valsPad_set (S : List Nat) (l : List Int) (K k : Nat) (h : k < K) : (valsPad S l K k).set k (getZ S (zi l (2 * k)).toNat (zi l (2 * k + 1))) = valsPad S l K (k + 1) := by
  unfold valsPad
  rw [List.set_append_right _ _ (by rw [valsTo_length]; exact Nat.le_refl _), valsTo_length, Nat.sub_self, show K - k = (K - (k + 1)) + 1 by omega, List.replicate_succ, List.set_cons_zero, valsTo, List.append_assoc]
  rfl
theorem valsPad_all (S : List Nat) (l : List Int) (K : Nat) : valsPad S l K K = valsTo S l K := by
  unfold valsPad
  rw [Nat.sub_self]
  simp
/-- A layout in a variable. -/
structure LayVar (w : World) (b : Nat) (x y : Value) : Prop where
  lt : b < w.heap.size
  c0 : w.cell? ⟨b, 0, none⟩ = some x
  c1 : w.cell? ⟨b, 1, none⟩ = some y
theorem LayVar.far {F : Nat → Prop} {w w' : World} {b : Nat} {x y : Value} (h : LayVar w b x y) (g : Far F w w') (hF : ¬ F b) : LayVar w' b x y :=
  ⟨Nat.lt_of_lt_of_le h.lt g.size, (g.cell (p := ⟨b, 0, none⟩) h.lt hF).trans h.c0, (g.cell (p := ⟨b, 1, none⟩) h.lt hF).trans h.c1⟩
theorem LayVar.grew {w w' : World} {b : Nat} {x y : Value} (h : LayVar w b x y) (g : Grew w w') : LayVar w' b x y := h.far (F := fun _ => False) (Far.of_grew g) (fun q => q)
theorem lay_new (w : World) (x y : Value) (E : TypeId) : ∃ W, w.alloc (.cells #[x, y] E) = W ∧ Grew w W ∧ LayVar W w.heap.size x y :=
  ⟨_, rfl, (Grew.refl _).alloc _, by simp, by simp [go_sem], by simp [go_sem]⟩
theorem lay_pos (c : Nat) : 2 * ((ubxLay c).2.length / 2) = (ubxLay c).2.length := by have := (ubx_layOk c).even; omega
-- [DEC
theorem neg_abs (m : Nat) (neg : Bool) : (if neg then -(m : Int) else (m : Int)).natAbs = m := by cases neg <;> simp
theorem neg_lt (m : Nat) (neg : Bool) (h : 0 < m) : decide ((if neg then -(m : Int) else (m : Int)) < 0) = neg := by cases neg <;> simp <;> omega
set_option maxRecDepth 100000 in
set_option maxHeartbeats 4000000 in
theorem ubp_Decode (a b : Nat) (v : Value) (S : List Nat) (w : World) (ha : a < 256) (hb : b < 256) (hr : Row .u8 w v S) (hB : Bytes S) (hl : S.length ≤ 100000) :
    Calls Try.prog 36 #[.int .u8 (a : Nat), .int .u8 (b : Nat), v] w (DecT a b (ubxDec (a * 256 + b) S) w) := by
  have HIT := fun w v h => kinds_hit w v h a b ha hb
  have MISS := fun w v h => kinds_miss w v h a b
  have HK := fun w => Lib.hid (ubp_kinds w)
  have hev := (ubx_layOk (a * 256 + b)).even
  have HF := lay_field (a * 256 + b)
  unfold LayAt at HIT
  have hdec : ubxDec (a * 256 + b) S = if (ubxLay (a * 256 + b)).1 = 0 then ([], 7) else if S.length ≠ (ubxLay (a * 256 + b)).1 then ([], 5) else (valsTo S (ubxLay (a * 256 + b)).2 ((ubxLay (a * 256 + b)).2.length / 2), 0) := rfl
  rw [hdec]
  clear hdec
  generalize (ubxLay (a * 256 + b)).1 = n at *
  generalize (ubxLay (a * 256 + b)).2 = l at *
  have HR := Lib.hid hr
  obtain ⟨SA, sc, rfl, hsc⟩ := hr.form
  clear hr
  unfold keyV at HIT MISS
  by_cases hn0 : n = 0
  · subst hn0
    rw [if_pos rfl]
    have MISS' := fun w v h => Lib.hid (MISS w v h rfl)
    clear MISS HIT
    go_enter Try.func36, Try.ntmps36
    go_upto_region 1 with fail
    obtain ⟨W, hW, g0, T0⟩ := three_new w (.int .u8 0) (.int .u8 0) (.slice none 0 0) 79
    rw [hW]
    clear hW
    go_upto_region 2 with (go_at_call 43; refine (HK _).out.mono ?_; rintro e w1 ⟨kv, rfl, hk, g1⟩; have hrun := (MISS' w1 kv hk).out)
    obtain ⟨V, hV, gV, TV⟩ := lay_new w1 (.int .i64 0) (.slice none 0 0) 90
    rw [hV]
    clear hV
    obtain ⟨_, r0, r1, r2, q0, q1, q2⟩ := T0.grew (g1.trans gV)
    go_wp2_with fail
    refine bodyPost_ret (by simp [results, Try.results36, go_sem, r0, r1, r2]; try rfl) rfl ?_
    exact decT_no (by decide) (three_put (g0.trans (g1.trans gV)) (Nat.le_refl _) _ _ _)
  · rw [if_neg hn0]
    have HIT' := fun w v h => Lib.hid (HIT w v h hn0)
    clear MISS HIT
    go_enter Try.func36, Try.ntmps36
    go_upto_region 1 with fail
    obtain ⟨W, hW, g0, T0⟩ := three_new w (.int .u8 0) (.int .u8 0) (.slice none 0 0) 79
    rw [hW]
    clear hW
    go_upto_region 2 with (go_at_call 43; refine (HK _).out.mono ?_; rintro e w1 ⟨kv, rfl, hk, g1⟩; obtain ⟨lv, hrun, LA, lc, rfl, hlay⟩ := (HIT' w1 kv hk).out)
    obtain ⟨V, hV, gV, TV⟩ := lay_new w1 (.int .i64 (n : Nat)) (.slice LA (l.length / 2) lc) 90
    rw [hV]
    clear hV hrun
    have HLAY := Lib.hid hlay
    clear hlay
    have T1 := Lib.hid (T0.grew (g1.trans gV))
    obtain ⟨_, r0, r1, r2, q0, q1, q2⟩ := T0.grew (g1.trans gV)
    have TV1 := Lib.hid TV
    obtain ⟨_, v0, v1⟩ := TV
    by_cases hne : S.length ≠ n
    · have n1 : ¬ (S.length : Int) = n := by omega
      rw [if_pos hne]
      go_wp2_with fail
      refine bodyPost_ret (by simp [results, Try.results36, go_sem, r0, r1, r2]; try rfl) rfl ?_
      exact decT_no (by decide) (three_put (g0.trans (g1.trans gV)) (Nat.le_refl _) _ _ _)
    · obtain rfl : n = S.length := by omega
      rw [if_neg hne]
      go_upto_region 7 with (refine wpList_makeZ _ rfl _ _ 77 rfl V.heap.size 2 .i64 8 Try.underlying77 infoI64 (l.length / 2) rfl rfl (by omega) (by unfold maxLen; omega) (Nat.le_refl _) ?_; intro V2 hO0 gV2)
      have hpos : 2 * (l.length / 2) = l.length := by omega
      generalize hKe : l.length / 2 = K at *
      clear hKe
      obtain ⟨_, v0, v1⟩ := TV1.out.grew gV2
      have hvl : V.heap.size < V2.heap.size := (hO0.lt _ rfl).2
      have hw1 : w1.heap.size < V.heap.size := TV1.out.lt
      have hw0 : w.heap.size < w1.heap.size := Nat.lt_of_lt_of_le T0.lt g1.size
      have GA := Lib.hid (g0.trans (g1.trans (gV.trans gV2)))
      have GB := Lib.hid (gV.trans gV2)
      have HFI := Lib.hid HF
      have HBy := Lib.hid hB
      clear HK HIT' g0 g1 gV T0 r0 r1 r2 q0 q1 q2 HF hB
      go_wp2_with fail
      go_loopg [37] K (fun kx s wr => ∃ k : Nat, k + kx = K ∧ s = .int .i64 k ∧ Hid (OwnZ V.heap.size 2 .i64 wr (.slice (some ⟨V.heap.size, 0, none⟩) K K) (valsPad S l K k)) ∧ Hid (Far (fun x => x = V.heap.size) V2 wr))
      case atStart => exact ⟨0, by omega, rfl, Lib.hid (by unfold valsPad valsTo; exact hO0), Lib.hid (Far.refl _ _)⟩
      case round =>
        obtain ⟨k, hk, rfl, hO, hFa⟩ := hrel
        by_cases hlt : k < K
        · obtain ⟨p, m, neg, e1, e2, hm, hpm⟩ := HFI.out k (by omega)
          obtain ⟨fb, rfl, hfb, c0, c1, c2⟩ := HLAY.out k (by omega)
          rw [e1] at c0
          rw [e2, neg_abs] at c1
          rw [e2, neg_lt m neg hm.1] at c2
          have hs := Lib.hid (valsPad_set S l K k hlt)
          rw [e1, e2, Int.toNat_natCast] at hs
          have HG := fun w' (g : Grew wr w') => Lib.hid (ubp_read (.slice SA S.length sc) S p m neg w' (((HR.out.grew GA.out).far hFa.out (fun x hx h => by have := HR.out.lt (by omega) x hx; omega)).grew g) HBy.out hpm hm hl)
          have y0 := (hFa.out.cell (p := ⟨fb, k * 3, none⟩) (Nat.lt_trans hfb (by omega)) (by show ¬ fb = _; omega)).trans ((GB.out.cell (p := ⟨fb, k * 3, none⟩) hfb).trans c0)
          have y1 := (hFa.out.cell (p := ⟨fb, k * 3 + 1, none⟩) (Nat.lt_trans hfb (by omega)) (by show ¬ fb = _; omega)).trans ((GB.out.cell (p := ⟨fb, k * 3 + 1, none⟩) hfb).trans c1)
          have y2 := (hFa.out.cell (p := ⟨fb, k * 3 + 2, none⟩) (Nat.lt_trans hfb (by omega)) (by show ¬ fb = _; omega)).trans ((GB.out.cell (p := ⟨fb, k * 3 + 2, none⟩) hfb).trans c2)
          clear c0 c1 c2
          generalize getZ S p (if neg then -(m : Int) else (m : Int)) = y at *
          have hvp := Lib.hid (valsPad_length S l K k (by omega))
          generalize valsPad S l K k = zs at *
          go_upto_region 10 with fail
          obtain ⟨W3, hW3, g3, T3⟩ := three_new wr (.int .i64 (p : Nat)) (.int .i64 (m : Nat)) (.bool neg) 97
          rw [hW3]
          clear hW3 y0 y1 y2
          obtain ⟨_, x0, x1, x2, _, _, _⟩ := T3
          go_upto_region 11 with (go_at_call 44; refine (HG _ g3).out.mono ?_; rintro e w5 ⟨rfl, g5⟩; have O5 := hO.out.grew (g3.trans g5); obtain ⟨hx, hfr⟩ := O5.cellAt hvp.out.symm k (by rw [hvp.out]; exact hlt))
          have O6 := O5.set k y (by rw [hvp.out]; exact hlt)
          have F6 := ((hFa.out.trans (Far.of_grew (F := fun x => x = V.heap.size) (g3.trans g5)))).setCell (p := ⟨V.heap.size, k, none⟩) rfl (.int .i64 y)
          rw [hs.out] at O6
          generalize w5.setCell ⟨V.heap.size, k, none⟩ (.int .i64 y) = V6 at *
          clear O5 hx hfr x0 x1 x2 HG
          go_wp2_with fail
          go_roundg (K - (k + 1))
          case measure => omega
          case rel => exact ⟨k + 1, by omega, by go_num, Lib.hid O6, Lib.hid F6⟩
        · obtain rfl : k = K := by omega
          have hva := Lib.hid (valsPad_all S l k)
          rw [hva.out] at hO
          obtain ⟨_, r0, r1, r2, q0, q1, q2⟩ := (T1.out.grew gV2).far hFa.out (by show ¬ w.heap.size = _; omega)
          have O6 := Lib.hid (hO.out.far ((((Far.refl (fun x => x = w.heap.size) wr).setCell (p := ⟨w.heap.size, 0, none⟩) rfl (.int .u8 (a : Nat))).setCell (p := ⟨w.heap.size, 1, none⟩) rfl (.int .u8 (b : Nat))).setCell (p := ⟨w.heap.size, 2, none⟩) rfl (.slice (some ⟨V.heap.size, 0, none⟩) k k)) (fun x hx e => by have := hO.out.lt x hx; have : x = w.heap.size := e; omega))
          have OL := Lib.hid hO.out.lt
          have GR := Lib.hid (hFa.out.grew GA.out (fun x h => by have : x = V.heap.size := h; omega))
          clear hO hFa HFI HLAY
          go_wp2_with fail
          refine bodyPost_ret (by simp [results, Try.results36, go_sem, r0, r1, r2]; try rfl) rfl ?_
          exact ⟨_, rfl, O6.out.row, fun _ x hx => by have := OL.out x hx; omega, three_put GR.out (Nat.le_refl _) _ _ _⟩
-- DEC]
end Go.Proofs.Ytcdmbnbanopioaa
