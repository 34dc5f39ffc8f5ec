/-
  The document's table of leap seconds.
-/
import Derived.Test.YtnfijelcnemgbaaDoorCivS
import Derived.StillTailTactics
import Derived.Deep.RegionHeld3
import Derived.Laws.OwnMore
import Derived.Laws.AppendOwn
namespace Go.Proofs.YtnfijelcnemgbaaDoor
open Go.RowKit
set_option linter.unusedVariables false

def leapYs : List Int := [1981, 1982, 1983, 1985, 1988, 1990, 1991, 1992, 1993, 1994, 1996, 1997, 1999, 2006, 2009, 2012, 2015, 2017]
def leapMs : List Nat := [7, 7, 7, 7, 1, 1, 1, 7, 7, 7, 1, 7, 1, 1, 1, 7, 7, 1]
def leapMis : List Int := leapMs.map fun (n : Nat) => (n : Int)
def leapY (i : Nat) : Int := leapYs.getD i 0
def leapM (i : Nat) : Nat := leapMs.getD i 0
/-- The UTC second of a line; its GPS second. -/
def lineU (i : Nat) : Int := ([2524953600, 2571782400, 2603318400, 2634854400, 2698012800, 2776982400, 2840140800, 2871676800, 2918937600, 2950473600, 2982009600, 3029443200, 3076704000, 3124137600, 3345062400, 3439756800, 3550089600, 3644697600, 3692217600] : List Int).getD i 0
def lineG (i : Nat) : Int := lineU i - 2524953600 + i
def lineCells (i : Nat) : List Value := [.int .i64 (lineU i), .int .i64 (lineG i), .int .i64 (i : Nat)]
def linesTo : Nat → List Value
  | 0 => []
  | k + 1 => linesTo k ++ lineCells k

theorem line_facts : ∀ i : Fin 18, (1900 ≤ leapY i ∧ leapY i ≤ 2199) ∧ (1 ≤ leapM i ∧ leapM i ≤ 12) ∧ 1 ≤ lenOf (leapY i) (leapM i) ∧ (base (leapY i) + cum (leapY i) (leapM i - 1) + 1 - 1) * 86400 + (0 * 3600 + 0 * 60 + 0) = lineU (i + 1) ∧ 2524953600 ≤ lineU (i + 1) ∧ lineU (i + 1) ≤ 3800000000 := by decide +kernel

theorem linesTo_length : ∀ k, (linesTo k).length = k * 3
  | 0 => rfl
  | k + 1 => by rw [linesTo, List.length_append, linesTo_length k]; simp [lineCells]; omega
theorem linesTo_at : ∀ {n i j : Nat}, i < n → j < 3 → (linesTo n)[i * 3 + j]? = (lineCells i)[j]?
  | 0, _, _, h, _ => by omega
  | n + 1, i, j, h, hj => by
    rw [linesTo]
    by_cases hi : i < n
    · rw [List.getElem?_append_left (by rw [linesTo_length]; omega)]; exact linesTo_at hi hj
    · obtain rfl : i = n := by omega
      rw [List.getElem?_append_right (by rw [linesTo_length]; omega), linesTo_length, Nat.add_sub_cancel_left]

theorem rowOwn_grew {B : Nat} {E : TypeId} {s : Nat} {w w' : World} {v : Value} {n : Nat} {xs : List Value} (h : w.ownsRow B E s v n xs) (g : Grew w w') : w'.ownsRow B E s v n xs := by
  obtain ⟨h1, h2⟩ := h
  refine ⟨h1, ?_⟩
  rcases h2 with h2 | ⟨b, cap, cur, e, hb, hh, r⟩
  · exact .inl h2
  · refine .inr ⟨b, cap, cur, e, hb, ?_, r⟩
    have hlt : b < w.heap.size := by
      rcases Nat.lt_or_ge b w.heap.size with h | h
      · exact h
      · rw [Array.getElem?_eq_none h] at hh; cases hh
    rw [Below.block g b hlt]; exact hh
theorem rowOwn_push {w0 w w' : World} {E : TypeId} {s : Nat} {v : Value} {n : Nat} {xs : List Value} (g : Grew w0 w) (h : w.ownsRow w0.heap.size E s v n xs) (hg : w.grownBy w' v.ownBlock) : Grew w0 w' :=
  Below.grown g hg g.size (fun b hb => (World.ownsRow.lt h b hb).1)
theorem rowOwn_new (w : World) (xs : List Value) (E : TypeId) (s B : Nat) (hx : xs.length = s) (hB : B ≤ w.heap.size) : (w.alloc (.cells xs.toArray E)).ownsRow B E s (.slice (some ⟨w.heap.size, 0, none⟩) 1 1) 1 xs := by
  refine ⟨by omega, .inr ⟨_, 1, xs.toArray, rfl, hB, heap_alloc_new w _, by omega, by decide, by simp; omega, ?_⟩⟩
  simp [List.take_of_length_le, hx]

/-- A slice of the table's lines. -/
def TableAt (w : World) (v : Value) : Prop := ∃ g c, v = .slice (some ⟨g, 0, none⟩) 19 c ∧ g < w.heap.size ∧ ∀ i, i < 19 → w.cell? ⟨g, i * 3, none⟩ = some (.int .i64 (lineU i)) ∧ w.cell? ⟨g, i * 3 + 1, none⟩ = some (.int .i64 (lineG i)) ∧ w.cell? ⟨g, i * 3 + 2, none⟩ = some (.int .i64 (i : Nat))
theorem TableAt.grew {w w' : World} {v : Value} (h : TableAt w v) (g : Grew w w') : TableAt w' v := by
  obtain ⟨b, c, rfl, hb, hc⟩ := h
  exact ⟨b, c, rfl, Nat.lt_of_lt_of_le hb g.size, fun i hi => ⟨(g.cell hb).trans (hc i hi).1, (g.cell hb).trans (hc i hi).2.1, (g.cell hb).trans (hc i hi).2.2⟩⟩
theorem tableAt_own {w : World} {B : Nat} {E : TypeId} {v : Value} (h : w.ownsRow B E 3 v 19 (linesTo 19)) : TableAt w v := by
  obtain ⟨g, cap, rfl⟩ : ∃ g cap, v = .slice (some ⟨g, 0, none⟩) 19 cap := by
    rcases h.2 with ⟨_, h2⟩ | ⟨g, cap, cur, e, _⟩
    · omega
    · exact ⟨g, cap, e⟩
  have hc := fun i hi => World.ownsRow.cellAt h i hi
  refine ⟨g, cap, rfl, World.block_lt_of_cell? w ⟨g, 0, none⟩ (hc 0 (by omega)), fun i hi => ⟨?_, ?_, ?_⟩⟩
  · rw [hc _ (by omega)]; exact linesTo_at (j := 0) hi (by omega)
  · rw [hc _ (by omega)]; exact linesTo_at (j := 1) hi (by omega)
  · rw [hc _ (by omega)]; exact linesTo_at (j := 2) hi (by omega)
def TableMade (w : World) (e : Ending) (w' : World) : Prop := ∃ v, e = .returned v ∧ TableAt w' v ∧ Grew w w'

/-- A block of numbers. -/
def IntBlock (w : World) (b : Nat) (E : TypeId) (xs : List Int) : Prop := w.heap[b]? = some (.cells (xs.map (Value.int .i64)).toArray E (0, 0))
theorem IntBlock.at_ {w : World} {b : Nat} {E : TypeId} {xs : List Int} (h : IntBlock w b E xs) (j : Nat) (hj : j < xs.length) : w.cell? ⟨b, j, none⟩ = some (.int .i64 (xs.getD j 0)) := by
  unfold IntBlock at h
  simp [World.cell?, h, hj]
theorem IntBlock.lt {w : World} {b : Nat} {E : TypeId} {xs : List Int} (h : IntBlock w b E xs) : b < w.heap.size := (Array.getElem?_eq_some_iff.1 h).1
theorem IntBlock.grew {w w' : World} {b : Nat} {E : TypeId} {xs : List Int} (h : IntBlock w b E xs) (g : Grew w w') : IntBlock w' b E xs := (Below.block g b h.lt).trans h
theorem IntBlock.push {w w' : World} {b B s n : Nat} {E E' : TypeId} {xs : List Int} {v : Value} {ys : List Value} (h : IntBlock w b E xs) (k : w.ownsRow B E' s v n ys) (hne : E ≠ E') (hg : w.grownBy w' v.ownBlock) : IntBlock w' b E xs := by
  refine (hg.block b h.lt ?_).trans h
  intro e
  rcases k.2 with ⟨rfl, _⟩ | ⟨g, cap, cur, rfl, _, hh, _⟩
  · simp [Value.ownBlock] at e
  · simp [Value.ownBlock] at e
    subst e
    unfold IntBlock at h
    rw [h] at hh
    simp at hh
    exact hne hh.2
theorem intBlock_new (w : World) (E : TypeId) (xs : List Int) : IntBlock (w.alloc (.cells (xs.map (Value.int .i64)).toArray E)) w.heap.size E xs := heap_alloc_new w _
theorem swap_world {p : World → Prop} {a b : World} (h : a = b) (k : p b) : p a := h ▸ k
theorem three_rows (w : World) (xs : List Value) (ys zs : List Int) (E F : TypeId) (s : Nat) (hx : xs.length = s) : ∃ W, ((w.alloc (.cells xs.toArray E)).alloc (.cells (ys.map (Value.int .i64)).toArray F)).alloc (.cells (zs.map (Value.int .i64)).toArray F) = W ∧ Grew w W ∧
    W.ownsRow w.heap.size E s (.slice (some ⟨w.heap.size, 0, none⟩) 1 1) 1 xs ∧ IntBlock W (w.heap.size + 1) F ys ∧ IntBlock W (w.heap.size + 1 + 1) F zs := by
  have h1 := rowOwn_new w xs E s w.heap.size hx (Nat.le_refl _)
  have h2 := intBlock_new (w.alloc (.cells xs.toArray E)) F ys
  have h3 := intBlock_new ((w.alloc (.cells xs.toArray E)).alloc (.cells (ys.map (Value.int .i64)).toArray F)) F zs
  simp only [World.size_alloc] at h2 h3
  exact ⟨_, rfl, (((Grew.refl _).alloc _).alloc _).alloc _, rowOwn_grew h1 (((Grew.refl _).alloc _).alloc _), h2.grew ((Grew.refl _).alloc _), h3⟩

section
variable {P : Program} (w : World)
/-- 'append(out, x)' of one line, the row the call's own. -/
theorem wpList_push3 {ops : Array Oper} {rest : List Oper} {o : Oper} {a : Act} {Q : Exit → Act → World → Prop} (hgd : o.guard = none) (s x : Operand) (t : TypeId)
    (ho : o.op = .call { callee := .builtin .append, args := #[s, x], argTypes := #[t, t] })
    (base : Nat) (E : TypeId) (ht : P.underlying t = some (.slice E)) (hi : (P.info? E).map (fun i => (i.zero, i.size, i.bytes)) = some (some (.agg #[.int .i64 0, .int .i64 0, .int .i64 0]), 3, 24))
    (v : Value) (n : Nat) (xs : List Value) (hs : a.eval s = v) (hown : w.ownsRow base E 3 v n xs)
    (b : Nat) (p q r : Int) (hx : a.eval x = .slice (some ⟨b, 0, none⟩) 1 1) (hc : w.cell? ⟨b, 0, none⟩ = some (.int .i64 p)) (hc1 : w.cell? ⟨b, 1, none⟩ = some (.int .i64 q)) (hc2 : w.cell? ⟨b, 2, none⟩ = some (.int .i64 r))
    (hlen : n ≤ 100000) (hbase : base ≤ w.heap.size)
    (h : ∀ v' w', w'.ownsRow base E 3 v' (n + 1) (xs ++ [.int .i64 p, .int .i64 q, .int .i64 r]) → w.grownBy w' v.ownBlock → wpList P ops Q rest (a.put o.dst v') w') : wpList P ops Q (o :: rest) a w := by
  obtain ⟨i, hi0, hz0, hz1, hz2⟩ := info_parts hi
  refine wpList_append_own w hgd s x t ho base E i (.agg #[.int .i64 0, .int .i64 0, .int .i64 0]) 3 24 ht hi0 hz0 hz1 hz2 rfl (by decide) v n xs hs hown ⟨b, 0, none⟩ 1 1 [.int .i64 p, .int .i64 q, .int .i64 r] hx rfl ?_ ?_ ?_ (by omega) hbase ?_
  · intro j u hj
    match j, hj with
    | 0, hj => simp at hj; subst hj; simpa [Addr.add] using hc
    | 1, hj => simp at hj; subst hj; simpa [Addr.add] using hc1
    | 2, hj => simp at hj; subst hj; simpa [Addr.add] using hc2
  · intro u hu; simp at hu; rcases hu with rfl | rfl | rfl <;> rfl
  · unfold maxLen; omega
  · intro v' w' h1 h2 _
    exact h v' w' h1 h2
end
theorem infoLeap : (Tryd.prog.info? 37).map (fun i => (i.zero, i.size, i.bytes)) = some (some (.agg #[.int .i64 0, .int .i64 0, .int .i64 0]), 3, 24) := by kernel_rfl

set_option maxRecDepth 100000 in
set_option maxHeartbeats 2000000 in
theorem ref04_Table (w : World) : Calls Tryd.prog 16 #[] w (TableMade w) := by
  go_enter Tryd.func16, Tryd.ntmps16
  go_wp2_with fail
  obtain ⟨W, hW, g0, hown, hY, hM⟩ := three_rows w (linesTo 1) leapYs leapMis 37 3 3 rfl
  refine swap_world (p := fun x => Code.wp _ _ _ _ x) hW ?_
  clear hW
  go_loopw [1, 4] (fun out i wr => ∃ k : Nat, k ≤ 18 ∧ i = .int .i64 (k : Nat) ∧ wr.ownsRow w.heap.size 37 3 out (k + 1) (linesTo (k + 1)) ∧ IntBlock wr (w.heap.size + 1) 3 leapYs ∧ IntBlock wr (w.heap.size + 1 + 1) 3 leapMis ∧ Grew w wr) (fun _ i _ => 18 - (intOf i).toNat)
  case atStart => exact ⟨0, by omega, rfl, hown, hY, hM, g0⟩
  case round =>
    clear hown hY hM g0
    obtain ⟨k, hk, rfl, hown, hY, hM, hg⟩ := hrel
    by_cases hlt : k < 18
    · have cY := hY.at_ k (by simpa [leapYs] using hlt)
      have cM := hM.at_ k (by simpa [leapMis, leapMs] using hlt)
      obtain ⟨f1, f2, f3, f4, f5⟩ := line_facts ⟨k, hlt⟩
      simp only at f1 f2 f3 f4 f5
      rw [show leapYs.getD k 0 = leapY k from rfl] at cY
      rw [show leapMis.getD k 0 = (leapM k : Int) by unfold leapM leapMis; simp [List.getD_eq_getElem?_getD]; cases leapMs[k]? <;> rfl] at cM
      have hf := fun w => Lib.hid (ref03_Second (leapY k) (leapM k) 1 0 0 0 w f1 f2 ⟨by omega, f3⟩ (by omega) (by omega) (by omega))
      rw [f4] at hf
      have hl : Hid (lineCells (k + 1) = [.int .i64 (lineU (k + 1)), .int .i64 (lineU (k + 1) - 2524953600 + k + 1), .int .i64 ((k : Int) + 1)]) := by
        show _ = _; unfold lineCells lineG; simp; omega
      clear f3 f4
      generalize lineU (k + 1) = u at hf hl f5
      generalize leapY k = y at *
      generalize leapM k = m at *
      go_wp2_with fail
      have hY1 := hY.lt
      have hM1 := hM.lt
      have G : Grew wr wr.drew := (Grew.refl wr).drew
      go_region_held3 (fun w' => w'.cell? ⟨w.heap.size + 1, k, none⟩ = some (.int .i64 y) ∧ w'.cell? ⟨w.heap.size + 1 + 1, k, none⟩ = some (.int .i64 (m : Int)))
        (exact ⟨(G.cell hY1).trans cY, (G.cell hM1).trans cM⟩)
        (first
          | (go_at_call 24; refine (hf _).out.mono ?_; rintro e w2 ⟨rfl, hg2⟩; replace G := G.trans hg2; clear hg2))
      clear hf cY cM hY1 hM1
      replace hown := rowOwn_grew hown G
      replace hY := hY.grew G
      replace hM := hM.grew G
      replace hg := hg.trans G
      clear G
      go_wp2_with (at_builtin; refine wpList_push3 _ rfl _ _ 34 rfl w.heap.size 37 Tryd.underlying34 infoLeap _ (k + 1) (linesTo (k + 1)) rfl (hown.alloc _) w2.heap.size u (u - 2524953600 + k + 1) (k + 1) rfl (by simp) (by simp) (by simp) (by omega) (by have := hg.size; simp; omega) ?_; intro v1 w3 ho1 hg1)
      go_roundw
      case rel =>
        refine ⟨k + 1, by omega, by simp, ?_, (hY.grew ((Grew.refl _).alloc _)).push (hown.alloc _) (by decide) hg1, (hM.grew ((Grew.refl _).alloc _)).push (hown.alloc _) (by decide) hg1, rowOwn_push (hg.alloc _) (hown.alloc _) hg1⟩
        rw [show linesTo (k + 1 + 1) = linesTo (k + 1) ++ lineCells (k + 1) from rfl, hl.out]
        exact ho1
      case measure => simp [intOf]; omega
    · obtain rfl : k = 18 := by omega
      have hT := Lib.hid (tableAt_own hown)
      clear hown hY hM
      go_wp2_with fail
      go_ret
      exact ⟨_, rfl, hT.out, hg⟩
end Go.Proofs.YtnfijelcnemgbaaDoor
