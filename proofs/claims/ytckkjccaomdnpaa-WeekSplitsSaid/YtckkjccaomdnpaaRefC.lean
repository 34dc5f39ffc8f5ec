/-
  Contracts of the document's numbers.
-/
import Derived.Test.YtckkjccaomdnpaaRefB
import Derived.Test.YtckkjccaomdnpaaNot
namespace Go.Proofs.Ytckkjccaomdnpaa
open Go.RowKit
set_option linter.unusedVariables false

/-- A number's value: its sign, and a size that comes to it. -/
def Num (w : World) (v : Value) (n : Int) (L : Nat) : Prop :=
  ∃ sl xs, v = .agg #[.bool (decide (n < 0)), sl] ∧ Row .u64 w sl xs ∧ Words xs ∧ val xs = n.natAbs ∧ xs.length ≤ L
/-- .. without noughts at the top. -/
def NumT (w : World) (v : Value) (n : Int) (L : Nat) : Prop :=
  ∃ sl xs, v = .agg #[.bool (decide (n < 0)), sl] ∧ Row .u64 w sl xs ∧ Words xs ∧ val xs = n.natAbs ∧ xs.length ≤ L ∧ Tight xs
theorem NumT.num {w : World} {v : Value} {n : Int} {L : Nat} (h : NumT w v n L) : Num w v n L := by
  obtain ⟨sl, xs, h1, h2, h3, h4, h5, _⟩ := h; exact ⟨sl, xs, h1, h2, h3, h4, h5⟩
theorem Num.grew {w w' : World} {v : Value} {n : Int} {L : Nat} (h : Num w v n L) (g : Grew w w') : Num w' v n L := by
  obtain ⟨sl, xs, h1, h2, h3⟩ := h; exact ⟨sl, xs, h1, h2.grew g, h3⟩
theorem NumT.grew {w w' : World} {v : Value} {n : Int} {L : Nat} (h : NumT w v n L) (g : Grew w w') : NumT w' v n L := by
  obtain ⟨sl, xs, h1, h2, h3⟩ := h; exact ⟨sl, xs, h1, h2.grew g, h3⟩
theorem NumT.more {w : World} {v : Value} {n : Int} {L M : Nat} (h : NumT w v n L) (g : L ≤ M) : NumT w v n M := by
  obtain ⟨sl, xs, h1, h2, h3, h4, h5, h6⟩ := h; exact ⟨sl, xs, h1, h2, h3, h4, by omega, h6⟩
/-- What a call tells that makes a number. -/
def Tells (w : World) (n : Int) (L : Nat) (e : Ending) (w' : World) : Prop := ∃ v, e = .returned v ∧ NumT w' v n L ∧ Grew w w'

/-- A number of a sign and a size. -/
def signed (b : Bool) (n : Nat) : Int := if b then -(n : Int) else n
theorem signed_abs (b : Bool) (n : Nat) : (signed b n).natAbs = n := by unfold signed; split <;> omega
theorem signed_neg (b : Bool) (n : Nat) (h : 0 < n) : decide (signed b n < 0) = b := by unfold signed; cases b <;> simp <;> omega

set_option maxHeartbeats 1000000 in
theorem ref_made (b : Bool) (v : Value) (xs : List Nat) (w : World) (h : Row .u64 w v xs) (hx : Words xs) (hl : xs.length ≤ 1000000) :
    Calls Try.prog 25 #[.bool b, v] w (Tells w (signed b (val xs)) xs.length) := by
  obtain ⟨A, c, hA, hAc⟩ := h.form
  subst hA
  go_enter Try.func25, Try.ntmps25
  go_wp2
  go_loop [5] (fun p => ∃ k : Nat, p = .int .i64 (k : Nat) ∧ k ≤ xs.length ∧ Hid (sumTo (wd xs) k = val xs)) (fun p => (intOf p).toNat)
  case atStart => exact ⟨xs.length, rfl, by omega, rfl⟩
  case round =>
    obtain ⟨k, rfl, hk, hs⟩ := hrel
    by_cases h0 : k = 0
    · subst h0
      have hv : Hid (val xs = 0) := hs.out.symm
      go_wp2
      go_returns
      exact ⟨_, rfl, ⟨_, [], by rw [hv.out]; cases b <;> rfl, Row.nil _ _, Words.nil, by rw [signed_abs, hv.out]; rfl, by simp, fun h => absurd rfl h⟩, (Grew.refl _).alloc _⟩
    · obtain ⟨j, rfl⟩ : ∃ j, k = j + 1 := ⟨k - 1, by omega⟩
      obtain ⟨bb, o, rfl, hb, hcell⟩ := (h.grew ((Grew.refl w).alloc (.cells #[.bool false, .slice none 0 0] 37))).at_ (i := j) (by omega)
      by_cases hz : wd xs j = 0
      · have hz' : ((wd xs j : Int) == 0) = true := by simp [hz]
        have HZ := Lib.hid hz
        clear hz
        go_wp2
        refine ⟨⟨j, rfl, by omega, ?_⟩, by simp [intOf]⟩
        have := hs.out
        rw [sumTo, HZ.out, Nat.zero_mul] at this
        exact this
      · have hz' : ((wd xs j : Int) == 0) = false := by simp [hz]
        have HZ := Lib.hid hz
        clear hz
        go_wp2
        go_returns
        have hlen : (xs.take (j + 1)).length = j + 1 := by rw [List.length_take]; omega
        have ht : wd (xs.take (j + 1)) j = wd xs j := by unfold wd; rw [List.getD_eq_getElem?_getD, List.getElem?_take, if_pos (by omega), List.getD_eq_getElem?_getD]
        have hT : Tight (xs.take (j + 1)) := fun _ => by rw [hlen]; simp only [Nat.add_sub_cancel]; rw [ht]; exact HZ.out
        have hval : val (xs.take (j + 1)) = val xs := (val_take hk).trans hs.out
        have hpos : 0 < val xs := by
          have := hT.low (by intro e; rw [e] at hlen; simp at hlen)
          have := pos_pow ((xs.take (j + 1)).length - 1)
          omega
        refine ⟨_, rfl, ⟨_, xs.take (j + 1), ?_, (h.take hk).grew ((Grew.refl _).alloc _), hx.take _, by rw [signed_abs, hval], by omega, hT⟩, (Grew.refl _).alloc _⟩
        rw [signed_neg b _ hpos]

theorem ref_make (b : Bool) (v : Value) (xs : List Nat) (n : Int) (L : Nat) (w : World) (h : Row .u64 w v xs) (hx : Words xs) (hl : xs.length ≤ L) (hL : L ≤ 1000000) (hn : signed b (val xs) = n) :
    Calls Try.prog 25 #[.bool b, v] w (Tells w n L) :=
  (ref_made b v xs w h hx (by omega)).mono fun e w' ⟨v, he, ht, hg⟩ => ⟨v, he, by rw [hn] at ht; exact ht.more hl, hg⟩

theorem Row.two (k : IntKind) (w : World) (E : TypeId) (x y : Nat) : Row k (w.alloc (.cells #[.int k (x : Nat), .int k (y : Nat)] E)) (.slice (some ⟨w.heap.size, 0, none⟩) 2 2) [x, y] := by
  refine ⟨_, 2, rfl, by simp, fun _ => ⟨w.heap.size, 0, rfl, by simp, fun i hi => ?_⟩⟩
  have : i = 0 ∨ i = 1 := by simp at hi; omega
  rcases this with rfl | rfl <;> simp [wd]

/-- Behind a call: a block of two cells that was new ahead of it. -/
theorem two_kept {w w1 : World} {o : Obj} {x y : Value} {E : TypeId} (g : Grew ((w.alloc (.cells #[x, y] E)).alloc o) w1) :
    w1.cell? ⟨w.heap.size, 0, none⟩ = some x ∧ w1.cell? ⟨w.heap.size, 1, none⟩ = some y ∧ w1.frozen? ⟨w.heap.size, 0, none⟩ = false ∧ w1.frozen? ⟨w.heap.size, 1, none⟩ = false ∧ w.heap.size < w1.heap.size := by
  have hs := g.size
  simp at hs
  refine ⟨?_, ?_, ?_, ?_, by omega⟩
  · rw [g.cell (by simp; omega)]; simp
  · rw [g.cell (by simp; omega)]; simp
  · rw [g.frozen (by simp; omega)]; simp
  · rw [g.frozen (by simp; omega)]; simp

theorem NumT.form {w : World} {v : Value} {n : Int} {L : Nat} (h : NumT w v n L) : ∃ A m c, v = .agg #[.bool (decide (n < 0)), .slice A m c] := by
  obtain ⟨sl, xs, rfl, hr, _⟩ := h
  obtain ⟨A, c, rfl, _⟩ := hr.form
  exact ⟨A, _, c, rfl⟩
theorem Row.set {k : IntKind} {w : World} {v : Value} {ns : List Nat} (h : Row k w v ns) {p : Addr} {u x : Value} (hp : w.cell? p = some u) (hu : ∀ k m, u ≠ .int k m) : Row k (w.setCell p x) v ns := by
  obtain ⟨A, c, rfl, hc, hr⟩ := h
  refine ⟨A, c, rfl, hc, fun hn => ?_⟩
  obtain ⟨b, o, rfl, hb, hcell⟩ := hr hn
  refine ⟨b, o, rfl, by rw [World.size_setCell]; exact hb, fun i hi => ?_⟩
  rw [World.cell?_setCell_other _ _ _ _ (fun e => ?_)]
  · exact hcell i hi
  · subst e
    rw [hcell i hi] at hp
    injection hp with hp
    exact hu _ _ hp.symm
theorem NumT.set {w : World} {v : Value} {n : Int} {L : Nat} (h : NumT w v n L) {p : Addr} {u x : Value} (hp : w.cell? p = some u) (hu : ∀ k m, u ≠ .int k m) : NumT (w.setCell p x) v n L := by
  obtain ⟨sl, xs, h1, h2, h3⟩ := h; exact ⟨sl, xs, h1, h2.set hp hu, h3⟩
/-- A number that is stored where the call tells its result. -/
theorem tells_of {w w1 : World} {v : Value} {n : Int} {L r : Nat} {b : Bool} {A0 : Option Addr} {n0 c0 : Nat} {x y : Value} (hN : NumT w1 v n L) (hg : Grew w w1)
    (k0 : w1.cell? ⟨r, 0, none⟩ = some (.bool b)) (k1 : w1.cell? ⟨r, 1, none⟩ = some (.slice A0 n0 c0)) (hr : w.heap.size ≤ r) :
    Tells w n L (.returned v) ((w1.setCell ⟨r, 0, none⟩ x).setCell ⟨r, 1, none⟩ y) := by
  refine ⟨v, rfl, ?_, (hg.setCell hr _).setCell hr _⟩
  refine (hN.set k0 (fun _ _ h => by cases h)).set (u := .slice A0 n0 c0) ?_ (fun _ _ h => by cases h)
  rw [World.cell?_setCell_other _ _ _ _ (by simp)]
  exact k1

/-- A number's two words. -/
theorem two_words (m : Nat) (h : m < 18446744073709551616) : ∃ (Z C : Nat) (zs : List Nat), bits BinOp.and IntKind.u64 (m : Int) 4294967295 = (Z : Int) ∧ (m : Int) / 4294967296 = (C : Int) ∧ C < 4294967296 ∧
    (∀ (w : World) (E : TypeId), Row .u64 (w.alloc (.cells #[.int .u64 (Z : Nat), .int .u64 (C : Nat)] E)) (.slice (some ⟨w.heap.size, 0, none⟩) 2 2) zs) ∧ Words zs ∧ val zs = m ∧ zs.length ≤ 2 := by
  refine ⟨m % 4294967296, m / 4294967296, [m % 4294967296, m / 4294967296], mask32 m h, shr32 m, by omega, fun w E => Row.two _ _ _ _ _, fun i => ?_, ?_, by simp⟩
  · unfold wd; match i with
    | 0 => simp; omega
    | 1 => simp; omega
    | i + 2 => simp
  · simp [val, sumTo, wd]; omega

set_option maxHeartbeats 400000 in
theorem ref_Of (n : Int) (w : World) (hn : -9223372036854775808 ≤ n ∧ n ≤ 9223372036854775807) :
    Calls Try.prog 19 #[.int .i64 n] w (Tells w n 2) := by
  have s2 : IntKind.u64.signed = false := rfl
  obtain ⟨m, hm⟩ : ∃ m : Nat, n.natAbs = m := ⟨_, rfl⟩
  obtain ⟨Z, C, zs, eA, eD, bC, hrow, hw, hval, hzl⟩ := two_words m (by omega)
  have HR : Hid (∀ (o : Obj) (E : TypeId), Row .u64 ((w.alloc o).alloc (.cells #[.int .u64 (Z : Nat), .int .u64 (C : Nat)] E)) (.slice (some ⟨w.heap.size + 1, 0, none⟩) 2 2) zs) := fun o E => by
    have := hrow (w.alloc o) E
    rw [World.size_alloc] at this
    exact this
  clear hrow
  have hfit : Hid (signed (decide (n < 0)) (val zs) = n) := by show _ = _; rw [hval]; unfold signed; split <;> simp_all <;> omega
  by_cases h0 : n < 0
  · obtain ⟨U, e0, hU⟩ : ∃ U, IntKind.u64.wrap n = U ∧ Hid (U = n + 18446744073709551616) := ⟨_, rfl, by show _ = _; rw [IntKind.wrap_u64]; omega⟩
    obtain ⟨X, e1, hX⟩ : ∃ X, bits BinOp.xor IntKind.u64 IntKind.u64.max U = X ∧ Hid (X = 18446744073709551615 - U) := ⟨_, rfl, not_u64 U (by have := hU.out; omega) (by have := hU.out; omega)⟩
    have e2 : X + 1 = (m : Int) := by have := hU.out; have := hX.out; omega
    have bX : 0 ≤ X ∧ X < 18446744073709551615 := by have := hU.out; have := hX.out; omega
    rw [decide_eq_true h0] at hfit
    clear hm hval
    go_enter Try.func19, Try.ntmps19
    go_wp2_with (go_at_call 25; refine (ref_make true _ zs n 2 _ (HR.out _ _) hw hzl (by omega) hfit.out).mono ?_; rintro e w1 ⟨v, rfl, hN, hg⟩; obtain ⟨A, ml, c, rfl⟩ := hN.form; obtain ⟨k0, k1, k2, k3, k4⟩ := two_kept hg)
    refine bodyPost_ret (by simp [results, Try.results19, go_sem, k0, k1]; try rfl) rfl ?_
    exact tells_of (by simpa [h0] using hN) (((Grew.refl _).alloc _).alloc _ |>.trans hg) k0 k1 (Nat.le_refl _)
  · have e0 : IntKind.u64.wrap n = (m : Int) := by rw [IntKind.wrap_u64]; omega
    rw [decide_eq_false h0] at hfit
    clear hm hval
    go_enter Try.func19, Try.ntmps19
    go_wp2_with (go_at_call 25; refine (ref_make false _ zs n 2 _ (HR.out _ _) hw hzl (by omega) hfit.out).mono ?_; rintro e w1 ⟨v, rfl, hN, hg⟩; obtain ⟨A, ml, c, rfl⟩ := hN.form; obtain ⟨k0, k1, k2, k3, k4⟩ := two_kept hg)
    refine bodyPost_ret (by simp [results, Try.results19, go_sem, k0, k1]; try rfl) rfl ?_
    exact tells_of (by simpa [h0] using hN) (((Grew.refl _).alloc _).alloc _ |>.trans hg) k0 k1 (Nat.le_refl _)
end Go.Proofs.Ytckkjccaomdnpaa
