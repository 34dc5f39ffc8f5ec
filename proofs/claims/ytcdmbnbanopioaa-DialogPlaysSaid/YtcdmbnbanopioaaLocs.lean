/-
  A region that draws its order, whose operations each leave what they leave whatever the others do: each is run once.
-/
import Derived.Test.YtcdmbnbanopioaaRefA
import Derived.Orders
import Derived.RegionTactic
namespace Go.Proofs.Ytcdmbnbanopioaa
open Go.RowKit
set_option linter.unusedVariables false

/-- No guards; each operation waits for earlier ones alone, and writes a slot of its own. -/
def locB (n : Nat) (ops : Array Oper) : Bool :=
  (List.range ops.size).all fun i => match ops[i]? with
    | none => true
    | some o => o.guard.isNone && o.after.all (fun e => decide (e.on < i)) && (match o.dst with | none => false | some d => decide (d < n) && (List.range ops.size).all fun j => i == j || (match ops[j]? with | none => true | some p => p.dst != some d))
structure Loc (n : Nat) (ops : Array Oper) (i : Nat) (o : Oper) : Prop where
  guard : o.guard = none
  after : ∀ e ∈ o.after, e.on < i
  dst : ∃ d, o.dst = some d ∧ d < n ∧ ∀ j p, ops[j]? = some p → p.dst = some d → i = j
theorem loc_of {n : Nat} {ops : Array Oper} (h : locB n ops = true) (i : Nat) (o : Oper) (ho : ops[i]? = some o) : Loc n ops i o := by
  have hi : i < ops.size := (Array.getElem?_eq_some_iff.1 ho).1
  have h1 := List.all_eq_true.1 h i (List.mem_range.2 hi)
  simp only [ho, Bool.and_eq_true] at h1
  obtain ⟨⟨hg, ha⟩, hd⟩ := h1
  refine ⟨by simpa using hg, fun e he => ?_, ?_⟩
  · have := (Array.all_eq_true'.1 ha) e he
    simpa using this
  · cases hq : o.dst with
    | none => rw [hq] at hd; cases hd
    | some d =>
      rw [hq] at hd
      simp only [Bool.and_eq_true, decide_eq_true_eq] at hd
      refine ⟨d, rfl, hd.1, fun j p hp hpd => ?_⟩
      have hj : j < ops.size := (Array.getElem?_eq_some_iff.1 hp).1
      have := List.all_eq_true.1 hd.2 j (List.mem_range.2 hj)
      simp only [hp, hpd, bne_self_eq_false, Bool.or_false, beq_iff_eq] at this
      exact this

/-- How many have not come up. -/
def unlisted (listed : Array Bool) : Nat → Nat
  | 0 => 0
  | k + 1 => unlisted listed k + if listed.getD k true = true then 0 else 1
theorem unlisted_all {listed : Array Bool} : ∀ {n : Nat}, unlisted listed n = 0 → ∀ k, k < n → listed.getD k true = true
  | 0, _, k, hk => absurd hk (by omega)
  | n + 1, h, k, hk => by
    rw [unlisted] at h
    by_cases e : k = n
    · subst e
      by_cases q : listed.getD k true = true
      · exact q
      · rw [if_neg q] at h; omega
    · exact unlisted_all (n := n) (by omega) k (by omega)
theorem getD_set (listed : Array Bool) (i k : Nat) (hi : i < listed.size) (b : Bool) : (listed.setIfInBounds i true).getD k b = if k = i then true else listed.getD k b := by
  by_cases h : k = i
  · subst h; simp [hi]
  · rw [if_neg h]; simp [Ne.symm h]
theorem unlisted_same {listed : Array Bool} {i : Nat} (hi : i < listed.size) : ∀ n, n ≤ i → unlisted (listed.setIfInBounds i true) n = unlisted listed n
  | 0, _ => rfl
  | n + 1, h => by rw [unlisted, unlisted, unlisted_same hi n (by omega), getD_set _ _ _ hi, if_neg (show ¬ n = i by omega)]
theorem unlisted_set {listed : Array Bool} {i : Nat} (hi : i < listed.size) (hf : listed.getD i true = false) : ∀ n, i < n → unlisted (listed.setIfInBounds i true) n + 1 = unlisted listed n
  | 0, h => absurd h (by omega)
  | n + 1, h => by
    rw [unlisted, unlisted, getD_set _ _ _ hi]
    by_cases e : n = i
    · subst e
      rw [if_pos rfl, hf, unlisted_same hi n (Nat.le_refl _)]
      simp
    · rw [if_neg e, ← unlisted_set hi hf n (by omega)]
      omega
theorem ready_all {md : Region.Mode} {n : Nat} {ops : Array Oper} (h : locB n ops = true) {listed : Array Bool} (hs : listed.size = ops.size) (hr : Region.ready md ops listed = []) : ∀ k, k < ops.size → listed.getD k true = true := by
  intro k
  induction k using Nat.strongRecOn with
  | _ k ih =>
    intro hk
    by_cases q : listed.getD k true = true
    · exact q
    · exfalso
      have : k ∈ Region.ready md ops listed := by
        unfold Region.ready
        rw [List.mem_filter, List.mem_range]
        refine ⟨hk, ?_⟩
        have L := loc_of h k _ (Array.getElem?_eq_getElem hk)
        rw [Array.getElem?_eq_getElem hk]
        simp only [Option.map_some, Option.getD_some, Bool.and_eq_true, Bool.not_eq_true']
        refine ⟨by simpa using q, Array.all_eq_true'.2 fun e he => ?_⟩
        have hlt := L.after e he
        have hl := ih e.on hlt (by omega)
        have hsz : e.on < listed.size := by omega
        rw [Bool.or_eq_true]
        right
        simpa [hsz] using hl
      rw [hr] at this
      cases this

section
variable {P : Program} {ops : Array Oper} {Q : Exit → Act → World → Prop}
/-- What has come up has left what its operation leaves; nothing else has turned. -/
structure LocInv (ops : Array Oper) (Spec : Nat → World → Value → Prop) (W : World) (a0 : Act) (listed : Array Bool) (a : Act) (w : World) : Prop where
  size : listed.size = ops.size
  defers : a.defers = a0.defers
  slots : a.tmps.size = a0.tmps.size
  other : ∀ k, (∀ (j : Nat) (p : Oper), ops[j]? = some p → p.dst ≠ some k) → a.tmps.getD k undef = a0.tmps.getD k undef
  done : ∀ (j : Nat) (p : Oper) (d : Nat), ops[j]? = some p → listed.getD j true = true → p.dst = some d → Spec j w (a.tmps.getD d undef)
  grew : Grew W w
theorem tmp_set (a : Array Value) (d k : Nat) (v : Value) (hd : d < a.size) : (a.setIfInBounds d v).getD k undef = if k = d then v else a.getD k undef := by
  by_cases h : k = d
  · subst h; simp [hd]
  · rw [if_neg h]; simp [Ne.symm h]
theorem loc_any {n : Nat} (hB : locB n ops = true) (Spec : Nat → World → Value → Prop) (W : World) (a0 : Act) (hn : a0.tmps.size = n)
    (stable : ∀ i w w' v, Grew w w' → Spec i w v → Spec i w' v)
    (step : ∀ (i : Nat) (o : Oper) (a : Act) (w : World), ops[i]? = some o → (∀ k, (∀ (j : Nat) (p : Oper), ops[j]? = some p → p.dst ≠ some k) → a.tmps.getD k undef = a0.tmps.getD k undef) →
      (∀ e ∈ o.after, Region.binds .any e = true → ∀ (p : Oper) (d : Nat), ops[e.on]? = some p → p.dst = some d → Spec e.on w (a.tmps.getD d undef)) → Grew W w →
      o.wp P a w (fun a' w' => ∃ v, a' = a.put o.dst v ∧ Spec i w' v ∧ Grew w w') Q)
    (fin : ∀ (a : Act) (w : World), a.defers = a0.defers → a.tmps.size = n → (∀ k, (∀ (j : Nat) (p : Oper), ops[j]? = some p → p.dst ≠ some k) → a.tmps.getD k undef = a0.tmps.getD k undef) →
      (∀ (j : Nat) (p : Oper) (d : Nat), ops[j]? = some p → p.dst = some d → Spec j w (a.tmps.getD d undef)) → Grew W w → Q .normal a w) :
    ∀ (fuel : Nat) (listed : Array Bool) (a : Act) (w : World), LocInv ops Spec W a0 listed a w → unlisted listed ops.size = fuel → wpAny P .any ops Q fuel listed a w := by
  have fin' : ∀ (listed : Array Bool) (a : Act) (w : World), LocInv ops Spec W a0 listed a w → (∀ k, k < ops.size → listed.getD k true = true) → Q .normal a w := fun listed a w h hl =>
    fin a w h.defers (h.slots.trans hn) h.other (fun j p d hj hd => h.done j p d hj (hl j (Array.getElem?_eq_some_iff.1 hj).1) hd) h.grew
  intro fuel
  induction fuel with
  | zero =>
    intro listed a w h h0
    have hl := unlisted_all h0
    refine ⟨?_, fin' listed a w h hl⟩
    unfold Region.ready
    rw [List.filter_eq_nil_iff]
    intro i hi
    rw [List.mem_range] at hi
    simp [hl i hi]
  | succ fuel ih =>
    intro listed a w h hf
    refine ⟨fun hr => fin' listed a w h (ready_all hB h.size hr), fun i hi => ?_⟩
    unfold Region.ready at hi
    rw [List.mem_filter, List.mem_range] at hi
    obtain ⟨hlt, hi⟩ := hi
    have ho := Array.getElem?_eq_getElem hlt
    generalize ops[i] = o at ho
    have L := loc_of hB i o ho
    rw [ho] at hi
    simp only [Option.map_some, Option.getD_some, Bool.and_eq_true, Bool.not_eq_true'] at hi
    obtain ⟨hun, haf⟩ := hi
    obtain ⟨d, hd, hdn, huniq⟩ := L.dst
    have hls : i < listed.size := by rw [h.size]; exact hlt
    unfold wpOp
    simp only [ho]
    rw [if_pos (by simp [Region.wanted, L.guard])]
    refine .inl (Oper.wp_mono ?_ (step i o a w ho h.other ?_ h.grew))
    · rintro a' w' ⟨v, rfl, hS, hG⟩
      refine ih _ _ _ ⟨by simpa using h.size, ?_, ?_, ?_, ?_, h.grew.trans hG⟩ ?_
      · rw [hd]; exact h.defers
      · rw [hd]; simpa [Act.put] using h.slots
      · intro k hk
        rw [hd]
        show (a.tmps.setIfInBounds d v).getD k undef = _
        rw [tmp_set _ _ _ _ (by rw [h.slots, hn]; exact hdn), if_neg (fun e => hk i o ho (by rw [hd, e]))]
        exact h.other k hk
      · intro j p d' hj hl hd'
        rw [hd]
        show Spec j w' ((a.tmps.setIfInBounds d v).getD d' undef)
        rw [tmp_set _ _ _ _ (by rw [h.slots, hn]; exact hdn)]
        by_cases e : d' = d
        · subst e
          rw [if_pos rfl]
          obtain rfl := huniq j p hj hd'
          exact hS
        · rw [if_neg e]
          have hne : j ≠ i := fun q => by
            subst q
            rw [ho] at hj
            obtain rfl := Option.some.inj hj
            rw [hd] at hd'
            exact e (Option.some.inj hd').symm
          rw [getD_set _ _ _ hls, if_neg hne] at hl
          exact stable j w w' _ hG (h.done j p d' hj hl hd')
      · have := unlisted_set hls hun ops.size hlt
        omega
    · intro e he hb p d' hp hd'
      have h1 := Array.all_eq_true'.1 haf e he
      rw [hb] at h1
      simp only [Bool.not_true, Bool.false_or] at h1
      have hsz : e.on < listed.size := by rw [h.size]; exact (Array.getElem?_eq_some_iff.1 hp).1
      exact h.done e.on p d' hp (by simpa [hsz] using h1) hd'
/-- The region's law. -/
theorem wp_region_locs {id n : Nat} {a0 : Act} {w : World} (hm : P.follows .mixedOrders = true) (hB : locB n ops = true) (hn : a0.tmps.size = n) (Spec : Nat → World → Value → Prop)
    (stable : ∀ i w w' v, Grew w w' → Spec i w v → Spec i w' v)
    (step : ∀ (i : Nat) (o : Oper) (a : Act) (w' : World), ops[i]? = some o → (∀ k, (∀ (j : Nat) (p : Oper), ops[j]? = some p → p.dst ≠ some k) → a.tmps.getD k undef = a0.tmps.getD k undef) →
      (∀ e ∈ o.after, Region.binds .any e = true → ∀ (p : Oper) (d : Nat), ops[e.on]? = some p → p.dst = some d → Spec e.on w' (a.tmps.getD d undef)) → Grew w w' →
      o.wp P a w' (fun a' w'' => ∃ v, a' = a.put o.dst v ∧ Spec i w'' v ∧ Grew w' w'') Q)
    (fin : ∀ (a : Act) (w' : World), a.defers = a0.defers → a.tmps.size = n → (∀ k, (∀ (j : Nat) (p : Oper), ops[j]? = some p → p.dst ≠ some k) → a.tmps.getD k undef = a0.tmps.getD k undef) →
      (∀ (j : Nat) (p : Oper) (d : Nat), ops[j]? = some p → p.dst = some d → Spec j w' (a.tmps.getD d undef)) → Grew w w' → Q .normal a w') :
    (Code.region id ops true).wp P Q a0 w := by
  have hz : ∀ m, m ≤ ops.size → unlisted (Array.replicate ops.size false) m = m := fun m => by
    induction m with
    | zero => intro _; rfl
    | succ m ih => intro h; rw [unlisted, ih (by omega)]; simp [show m < ops.size by omega]
  refine wp_region_any hm (loc_any hB Spec w a0 hn stable step fin _ _ _ _ ⟨by simp, rfl, rfl, fun _ _ => rfl, fun j p d hj hl _ => ?_, (Grew.refl w).drew⟩ (hz _ (Nat.le_refl _)))
  have := (Array.getElem?_eq_some_iff.1 hj).1
  simp [this] at hl

/-- All of a list, each with its place. -/
def AllFrom {α : Type} (φ : Nat → α → Prop) : Nat → List α → Prop
  | _, [] => True
  | n, o :: l => φ n o ∧ AllFrom φ (n + 1) l
theorem all_from {α : Type} {φ : Nat → α → Prop} : ∀ (l : List α) (n i : Nat) (o : α), AllFrom φ n l → l[i]? = some o → φ (n + i) o
  | [], _, _, _, _, h => by simp at h
  | x :: l, n, 0, o, h, e => by simp at e; subst e; exact h.1
  | x :: l, n, i + 1, o, h, e => by
    have := all_from l (n + 1) i o h.2 (by simpa using e)
    rwa [show n + 1 + i = n + (i + 1) by omega] at this
/-- No operation of the region writes the slot; operation j writes slot d; an operation waits for it. -/
def freeSlot (ops : Array Oper) (k : Nat) : Bool := ops.all fun p => p.dst != some k
def writes (ops : Array Oper) (j d : Nat) : Bool := match ops[j]? with | none => false | some p => p.dst == some d
def waits (o : Oper) (j : Nat) : Bool := o.after.any fun e => e.on == j && Region.binds .any e
/-- The region's law, operation by operation. -/
theorem wp_region_each {id n : Nat} {l : List Oper} {a0 : Act} {w : World} (Spec : Nat → World → Value → Prop) (hm : P.follows .mixedOrders = true) (hB : locB n l.toArray = true) (hn : a0.tmps.size = n)
    (stable : ∀ i w w' v, Grew w w' → Spec i w v → Spec i w' v)
    (step : AllFrom (fun i o => ∀ (a : Act) (w' : World), (∀ k, freeSlot l.toArray k = true → a.tmps[k]?.getD undef = a0.tmps[k]?.getD undef) →
      (∀ j d, waits o j = true → writes l.toArray j d = true → Spec j w' (a.tmps[d]?.getD undef)) → Grew w w' →
      o.wp P a w' (fun a' w'' => ∃ v, a' = a.put o.dst v ∧ Spec i w'' v ∧ Grew w' w'') Q) 0 l)
    (fin : ∀ (a : Act) (w' : World), a.defers = a0.defers → a.tmps.size = n → (∀ k, freeSlot l.toArray k = true → a.tmps[k]?.getD undef = a0.tmps[k]?.getD undef) →
      (∀ j d, writes l.toArray j d = true → Spec j w' (a.tmps[d]?.getD undef)) → Grew w w' → Q .normal a w') :
    (Code.region id l.toArray true).wp P Q a0 w := by
  have free : ∀ (a : Act) k, (∀ k, (∀ (j : Nat) (p : Oper), l.toArray[j]? = some p → p.dst ≠ some k) → a.tmps.getD k undef = a0.tmps.getD k undef) → freeSlot l.toArray k = true → a.tmps[k]?.getD undef = a0.tmps[k]?.getD undef := fun a k h hk => by
    rw [← Array.getD_eq_getD_getElem?, ← Array.getD_eq_getD_getElem?]
    refine h k fun j p hp e => ?_
    have := Array.all_eq_true'.1 hk p (Array.mem_of_getElem? hp)
    rw [e] at this
    simp at this
  refine wp_region_locs hm hB hn Spec stable (fun i o a w' ho h1 h2 h3 => ?_) (fun a w' h1 h2 h3 h4 h5 => fin a w' h1 h2 (fun k => free a k h3) (fun j d hw => ?_) h5)
  · have := all_from l 0 i o step (by simpa using ho)
    rw [Nat.zero_add] at this
    refine this a w' (fun k => free a k h1) (fun j d hj hw => ?_) h3
    rw [← Array.getD_eq_getD_getElem?]
    unfold waits at hj
    obtain ⟨e, he, hb⟩ := Array.any_eq_true'.1 hj
    simp only [Bool.and_eq_true, beq_iff_eq] at hb
    obtain ⟨rfl, hb⟩ := hb
    unfold writes at hw
    cases hq : l.toArray[e.on]? with
    | none => rw [hq] at hw; cases hw
    | some p => rw [hq] at hw; exact h2 e he hb p d hq (by simpa using hw)
  · rw [← Array.getD_eq_getD_getElem?]
    unfold writes at hw
    cases hq : l.toArray[j]? with
    | none => rw [hq] at hw; cases hw
    | some p => rw [hq] at hw; exact h4 j p d hq (by simpa using hw)
end

/-- What an operation leaves: a value; a row; a row beside an error. -/
def Left3 (s : Value ⊕ (IntKind × List Nat) ⊕ (List Nat × Nat)) (w : World) (v : Value) : Prop :=
  match s with
  | .inl x => v = x
  | .inr (.inl p) => Row p.1 w v p.2
  | .inr (.inr p) => ∃ u, v = .tuple #[u, .int .i64 (p.2 : Nat)] ∧ Row .u8 w u p.1
theorem Left3.grew {s : Value ⊕ (IntKind × List Nat) ⊕ (List Nat × Nat)} {w w' : World} {v : Value} (g : Grew w w') (h : Left3 s w v) : Left3 s w' v := by
  rcases s with x | p | p
  · exact h
  · exact Row.grew h g
  · obtain ⟨u, e, r⟩ := h
    exact ⟨u, e, r.grew g⟩
theorem eval_const (a : Act) (v : Value) : a.eval (.const v) = v := rfl
theorem eval_func (a : Act) (f : FuncId) : a.eval (.func f) = .func (.func f) #[] #[] := rfl
theorem eval_global (a : Act) (g : Nat) : a.eval (.global g) = .pointer (some ⟨g, 0, none⟩) := rfl
section
variable {P : Program} {Q : Exit → Act → World → Prop} {o : Oper} {a : Act} {w w1 : World} {S : World → Value → Prop}
theorem each_value {v : Value} (h : (execOp a.eval o).run P w = .ok (.value v) w) (hs : S w v) : o.wp P a w (fun a' w'' => ∃ v, a' = a.put o.dst v ∧ S w'' v ∧ Grew w w'') Q := by
  unfold Oper.wp; rw [h]; exact ⟨v, rfl, hs, Grew.refl w⟩
theorem each_made {v : Value} (h : (execOp a.eval o).run P w = .ok (.value v) w1) (g : Grew w w1) (hs : S w1 v) : o.wp P a w (fun a' w'' => ∃ v, a' = a.put o.dst v ∧ S w'' v ∧ Grew w w'') Q := by
  unfold Oper.wp; rw [h]; exact ⟨v, rfl, hs, g⟩
theorem each_call {f : FuncId} {args : Array Value} (h : (execOp a.eval o).run P w = .ok (.enter f args) w) (hc : Calls P f args w fun e w' => ∃ v, e = .returned v ∧ S w' v ∧ Grew w w') : o.wp P a w (fun a' w'' => ∃ v, a' = a.put o.dst v ∧ S w'' v ∧ Grew w w'') Q := by
  unfold Oper.wp; rw [h, Oper.upon_enter]
  refine hc.mono ?_
  rintro e w' ⟨v, rfl, hs, g⟩
  exact ⟨v, rfl, hs, g⟩
end
end Go.Proofs.Ytcdmbnbanopioaa
