/-
  A region that draws its order and fills a map: each operation is run once, whatever has come up ahead of it.
-/
import Derived.Test.YtcdmbnbanopioaaLocs
namespace Go.Proofs.Ytcdmbnbanopioaa
open Go.RowKit
set_option linter.unusedVariables false

/-- No guards; each operation waits for earlier ones alone; it writes a slot of its own, or none. -/
def locmB (n : Nat) (ops : Array Oper) : Bool :=
  (List.range ops.size).all fun i => match ops[i]? with
    | none => true
    | some o => o.guard.isNone && o.after.all (fun e => !Region.binds .any e || decide (e.on < i)) && (match o.dst with | none => true | some d => decide (d < n) && (List.range ops.size).all fun j => i == j || (match ops[j]? with | none => true | some p => p.dst != some d))
structure Locm (n : Nat) (ops : Array Oper) (i : Nat) (o : Oper) : Prop where
  guard : o.guard = none
  after : ∀ e ∈ o.after, Region.binds .any e = true → e.on < i
  dst : ∀ d, o.dst = some d → d < n ∧ ∀ j p, ops[j]? = some p → p.dst = some d → i = j
theorem locm_of {n : Nat} {ops : Array Oper} (h : locmB n ops = true) (i : Nat) (o : Oper) (ho : ops[i]? = some o) : Locm n ops i o := by
  have hi : i < ops.size := (Array.getElem?_eq_some_iff.1 ho).1
  have h1 := List.all_eq_true.1 h i (List.mem_range.2 hi)
  simp only [ho, Bool.and_eq_true] at h1
  obtain ⟨⟨hg, ha⟩, hd⟩ := h1
  refine ⟨by simpa using hg, fun e he hb => ?_, fun d hq => ?_⟩
  · have := (Array.all_eq_true'.1 ha) e he
    rw [hb] at this
    simpa using this
  · rw [hq] at hd
    simp only [Bool.and_eq_true, decide_eq_true_eq] at hd
    refine ⟨hd.1, fun j p hp hpd => ?_⟩
    have hj : j < ops.size := (Array.getElem?_eq_some_iff.1 hp).1
    have := List.all_eq_true.1 hd.2 j (List.mem_range.2 hj)
    simp only [hp, hpd, bne_self_eq_false, Bool.or_false, beq_iff_eq] at this
    exact this
theorem readym_all {n : Nat} {ops : Array Oper} (h : locmB n ops = true) {listed : Array Bool} (hs : listed.size = ops.size) (hr : Region.ready .any ops listed = []) : ∀ k, k < ops.size → listed.getD k true = true := by
  intro k
  induction k using Nat.strongRecOn with
  | _ k ih =>
    intro hk
    by_cases q : listed.getD k true = true
    · exact q
    · exfalso
      have : k ∈ Region.ready .any ops listed := by
        unfold Region.ready
        rw [List.mem_filter, List.mem_range]
        refine ⟨hk, ?_⟩
        have L := locm_of h k _ (Array.getElem?_eq_getElem hk)
        rw [Array.getElem?_eq_getElem hk]
        simp only [Option.map_some, Option.getD_some, Bool.and_eq_true, Bool.not_eq_true']
        refine ⟨by simpa using q, Array.all_eq_true'.2 fun e he => ?_⟩
        by_cases hbe : Region.binds .any e = true
        case neg => simp [hbe]
        have hlt := L.after e he hbe
        have hl := ih e.on hlt (by omega)
        have hsz : e.on < listed.size := by omega
        rw [Bool.or_eq_true]
        right
        simpa [hsz] using hl
      rw [hr] at this
      cases this
/-- What has come up; one more. -/
def got (listed : Array Bool) (k : Nat) : Bool := listed.getD k false
def also (L : Nat → Bool) (i k : Nat) : Bool := k == i || L k
theorem got_true {listed : Array Bool} {k : Nat} (h : k < listed.size) : got listed k = listed.getD k true := by unfold got; simp [h]
theorem got_set {listed : Array Bool} {i : Nat} (h : i < listed.size) : got (listed.setIfInBounds i true) = also (got listed) i := by
  funext k
  unfold also got
  rw [getD_set _ _ _ h]
  by_cases e : k = i
  · simp [e]
  · rw [if_neg e]; simp [e]
def freeSlotA (ops : Array Oper) (k : Nat) : Bool := ops.all fun p => p.dst != some k
def waitsAt (ops : Array Oper) (j k : Nat) : Bool := match ops[j]? with | none => false | some p => waits p k

section
variable {P : Program} {ops : Array Oper} {Q : Exit → Act → World → Prop}
structure LocmInv (ops : Array Oper) (Spec : (Nat → Bool) → Nat → World → Value → Prop) (G : (Nat → Bool) → World → Prop) (a0 : Act) (listed : Array Bool) (a : Act) (w : World) : Prop where
  size : listed.size = ops.size
  defers : a.defers = a0.defers
  slots : a.tmps.size = a0.tmps.size
  other : ∀ k, freeSlotA ops k = true → a.tmps.getD k undef = a0.tmps.getD k undef
  done : ∀ (j d : Nat), got listed j = true → writes ops j d = true → Spec (got listed) j w (a.tmps.getD d undef)
  closed : ∀ (j k : Nat), got listed j = true → waitsAt ops j k = true → got listed k = true
  grew : G (got listed) w
theorem freeA_no {ops : Array Oper} {k i : Nat} {o : Oper} (h : freeSlotA ops k = true) (ho : ops[i]? = some o) : o.dst ≠ some k := fun e => by
  have := Array.all_eq_true'.1 h o (Array.mem_of_getElem? ho)
  rw [e] at this
  simp at this
theorem locm_any {n : Nat} (hB : locmB n ops = true) (Spec : (Nat → Bool) → Nat → World → Value → Prop) (G : (Nat → Bool) → World → Prop) (a0 : Act) (hn : a0.tmps.size = n)
    (step : ∀ (i : Nat) (o : Oper) (L : Nat → Bool) (a : Act) (w : World), ops[i]? = some o → L i = false → (∀ k, freeSlotA ops k = true → a.tmps.getD k undef = a0.tmps.getD k undef) →
      (∀ j, waits o j = true → L j = true) → (∀ j k, L j = true → waitsAt ops j k = true → L k = true) → (∀ j d, L j = true → writes ops j d = true → Spec L j w (a.tmps.getD d undef)) → G L w →
      o.wp P a w (fun a' w' => ∃ v, a' = a.put o.dst v ∧ (∀ d, o.dst = some d → Spec (also L i) i w' v) ∧ (∀ j d, L j = true → writes ops j d = true → Spec (also L i) j w' (a.tmps.getD d undef)) ∧ G (also L i) w') Q)
    (fin : ∀ (L : Nat → Bool) (a : Act) (w : World), (∀ k, k < ops.size → L k = true) → a.defers = a0.defers → a.tmps.size = n → (∀ k, freeSlotA ops k = true → a.tmps.getD k undef = a0.tmps.getD k undef) →
      (∀ j d, writes ops j d = true → Spec L j w (a.tmps.getD d undef)) → G L w → Q .normal a w) :
    ∀ (fuel : Nat) (listed : Array Bool) (a : Act) (w : World), LocmInv ops Spec G a0 listed a w → unlisted listed ops.size = fuel → wpAny P .any ops Q fuel listed a w := by
  have fin' : ∀ (listed : Array Bool) (a : Act) (w : World), LocmInv ops Spec G a0 listed a w → (∀ k, k < ops.size → listed.getD k true = true) → Q .normal a w := fun listed a w h hl =>
    have hg : ∀ k, k < ops.size → got listed k = true := fun k hk => by rw [got_true (by rw [h.size]; exact hk)]; exact hl k hk
    fin (got listed) a w hg h.defers (h.slots.trans hn) h.other (fun j d hd => h.done j d (hg j (by unfold writes at hd; split at hd; cases hd; exact (Array.getElem?_eq_some_iff.1 ‹_›).1)) hd) h.grew
  intro fuel
  induction fuel with
  | zero =>
    intro listed a w h h0
    have hl := unlisted_all h0
    refine ⟨?_, fin' listed a w h hl⟩
    unfold Region.ready
    rw [List.filter_eq_nil_iff]
    intro i hi
    rw [List.mem_range] at hi
    simp [hl i hi]
  | succ fuel ih =>
    intro listed a w h hf
    refine ⟨fun hr => fin' listed a w h (readym_all hB h.size hr), fun i hi => ?_⟩
    unfold Region.ready at hi
    rw [List.mem_filter, List.mem_range] at hi
    obtain ⟨hlt, hi⟩ := hi
    have ho := Array.getElem?_eq_getElem hlt
    generalize ops[i] = o at ho
    have L := locm_of hB i o ho
    rw [ho] at hi
    simp only [Option.map_some, Option.getD_some, Bool.and_eq_true, Bool.not_eq_true'] at hi
    obtain ⟨hun, haf⟩ := hi
    have hls : i < listed.size := by rw [h.size]; exact hlt
    have hwt : ∀ j, waits o j = true → got listed j = true := fun j hj => by
      unfold waits at hj
      obtain ⟨e, he, hb⟩ := Array.any_eq_true'.1 hj
      simp only [Bool.and_eq_true, beq_iff_eq] at hb
      obtain ⟨rfl, hb⟩ := hb
      have h1 := Array.all_eq_true'.1 haf e he
      rw [hb] at h1
      simp only [Bool.not_true, Bool.false_or] at h1
      unfold got
      exact h1
    have hni : got listed i = false := by rw [got_true hls]; exact hun
    unfold wpOp
    simp only [ho]
    rw [if_pos (by simp [Region.wanted, L.guard])]
    refine .inl (Oper.wp_mono ?_ (step i o (got listed) a w ho hni h.other hwt h.closed h.done h.grew))
    rintro a' w' ⟨v, rfl, hS, hO, hG⟩
    refine ih _ _ _ ⟨by simpa using h.size, ?_, ?_, ?_, ?_, ?_, by rw [got_set hls]; exact hG⟩ ?_
    · cases hd : o.dst <;> exact h.defers
    · cases hd : o.dst with
      | none => exact h.slots
      | some d => simpa [Act.put] using h.slots
    · intro k hk
      cases hd : o.dst with
      | none => exact h.other k hk
      | some d =>
        show (a.tmps.setIfInBounds d v).getD k undef = _
        rw [tmp_set _ _ _ _ (by rw [h.slots, hn]; exact (L.dst d hd).1), if_neg (fun e => freeA_no hk ho (by rw [hd, e]))]
        exact h.other k hk
    · intro j d' hl hd'
      rw [got_set hls] at hl ⊢
      cases hd : o.dst with
      | none =>
        have hj : j ≠ i := fun q => by
          subst q
          unfold writes at hd'
          rw [ho] at hd'
          simp [hd] at hd'
        have hl' : got listed j = true := by simpa [also, hj] using hl
        exact hO j d' hl' hd'
      | some d =>
        show Spec _ j w' ((a.tmps.setIfInBounds d v).getD d' undef)
        rw [tmp_set _ _ _ _ (by rw [h.slots, hn]; exact (L.dst d hd).1)]
        have hd2 := hd'
        unfold writes at hd2
        cases hq : ops[j]? with
        | none => rw [hq] at hd2; cases hd2
        | some p =>
          rw [hq] at hd2
          simp only [beq_iff_eq] at hd2
          by_cases e : d' = d
          · subst e
            rw [if_pos rfl]
            obtain rfl := (L.dst d' hd).2 j p hq hd2
            exact hS d' hd
          · rw [if_neg e]
            have hj : j ≠ i := fun q => by
              subst q
              rw [ho] at hq
              obtain rfl := Option.some.inj hq
              rw [hd] at hd2
              exact e (Option.some.inj hd2).symm
            have hl' : got listed j = true := by simpa [also, hj] using hl
            exact hO j d' hl' hd'
    · intro j k hl hw
      rw [got_set hls] at hl ⊢
      by_cases e : j = i
      · subst e
        have : waits o k = true := by unfold waitsAt at hw; rw [ho] at hw; exact hw
        unfold also
        rw [hwt k this, Bool.or_true]
      · have hl' : got listed j = true := by simpa [also, e] using hl
        unfold also
        rw [h.closed j k hl' hw, Bool.or_true]
    · have := unlisted_set hls hun ops.size hlt
      omega
/-- What one operation has to leave, beside what holds of the world. -/
def LocStepG (P : Program) (ops : Array Oper) (Spec : (Nat → Bool) → Nat → World → Value → Prop) (G : (Nat → Bool) → World → Prop) (a0 : Act) (Q : Exit → Act → World → Prop) (i : Nat) (o : Oper) : Prop :=
  ∀ (L : Nat → Bool) (a : Act) (w : World), L i = false → (∀ k, freeSlotA ops k = true → a.tmps[k]?.getD undef = a0.tmps[k]?.getD undef) →
    (∀ j, waits o j = true → L j = true) → (∀ j k, L j = true → waitsAt ops j k = true → L k = true) → (∀ j d, L j = true → writes ops j d = true → Spec L j w (a.tmps[d]?.getD undef)) → G L w →
    o.wp P a w (fun a' w' => ∃ v, a' = a.put o.dst v ∧ (∀ d, o.dst = some d → Spec (also L i) i w' v) ∧ (∀ j d, L j = true → writes ops j d = true → Spec (also L i) j w' (a.tmps[d]?.getD undef)) ∧ G (also L i) w') Q
/-- The region's law, operation by operation. -/
theorem wp_region_fillG {id n : Nat} {l : List Oper} {a0 : Act} {w : World} (hl : ops = l.toArray) (Spec : (Nat → Bool) → Nat → World → Value → Prop) (G : (Nat → Bool) → World → Prop) (hm : P.follows .mixedOrders = true) (hB : locmB n ops = true) (hn : a0.tmps.size = n)
    (start : ∀ L, (∀ k, L k = false) → G L w.drew)
    (step : AllFrom (LocStepG P ops Spec G a0 Q) 0 l)
    (fin : ∀ (L : Nat → Bool) (a : Act) (w' : World), (∀ k, k < ops.size → L k = true) → a.defers = a0.defers → a.tmps.size = n → (∀ k, freeSlotA ops k = true → a.tmps[k]?.getD undef = a0.tmps[k]?.getD undef) →
      (∀ j d, writes ops j d = true → Spec L j w' (a.tmps[d]?.getD undef)) → G L w' → Q .normal a w') :
    (Code.region id l.toArray true).wp P Q a0 w := by
  subst hl
  have hz : ∀ m, m ≤ l.toArray.size → unlisted (Array.replicate l.toArray.size false) m = m := fun m => by
    induction m with
    | zero => intro _; rfl
    | succ m ih => intro h; rw [unlisted, ih (by omega)]; simp at h; simp [show m < l.length by omega]
  have hg : ∀ k, got (Array.replicate l.toArray.size false) k = false := fun k => by unfold got; by_cases h : k < l.length <;> simp [h]
  refine wp_region_any hm (locm_any hB Spec G a0 hn (fun i o L a w' ho h1 h2 h3 h4 h5 h6 => ?_) (fun L a w' h1 h2 h3 h4 h5 h6 => fin L a w' h1 h2 h3 (fun k hk => ?_) (fun j d hw => ?_) h6) _ _ _ _ ⟨by simp, rfl, rfl, fun _ _ => rfl, fun j d hj _ => ?_, fun j k hj _ => ?_, start _ hg⟩ (hz _ (Nat.le_refl _)))
  · have := all_from l 0 i o step (by simpa using ho)
    rw [Nat.zero_add] at this
    unfold LocStepG at this
    simp only [← Array.getD_eq_getD_getElem?] at this
    exact this L a w' h1 h2 h3 h4 h5 h6
  · rw [← Array.getD_eq_getD_getElem?, ← Array.getD_eq_getD_getElem?]; exact h4 k hk
  · rw [← Array.getD_eq_getD_getElem?]; exact h5 j d hw
  · rw [hg] at hj; cases hj
  · rw [hg] at hj; cases hj
/-- Where nothing that was there turns. -/
def LocStep (P : Program) (ops : Array Oper) (Spec : (Nat → Bool) → Nat → World → Value → Prop) (W : World) (a0 : Act) (Q : Exit → Act → World → Prop) (i : Nat) (o : Oper) : Prop := LocStepG P ops Spec (fun _ w' => Grew W w') a0 Q i o
theorem wp_region_fill {id n : Nat} {l : List Oper} {a0 : Act} {w : World} (hl : ops = l.toArray) (Spec : (Nat → Bool) → Nat → World → Value → Prop) (hm : P.follows .mixedOrders = true) (hB : locmB n ops = true) (hn : a0.tmps.size = n)
    (step : AllFrom (LocStep P ops Spec w a0 Q) 0 l)
    (fin : ∀ (L : Nat → Bool) (a : Act) (w' : World), (∀ k, k < ops.size → L k = true) → a.defers = a0.defers → a.tmps.size = n → (∀ k, freeSlotA ops k = true → a.tmps[k]?.getD undef = a0.tmps[k]?.getD undef) →
      (∀ j d, writes ops j d = true → Spec L j w' (a.tmps[d]?.getD undef)) → Grew w w' → Q .normal a w') :
    (Code.region id l.toArray true).wp P Q a0 w :=
  wp_region_fillG hl Spec (fun _ w' => Grew w w') hm hB hn (fun _ _ => (Grew.refl w).drew) step fin
end

/-- What an operation leaves: a value; a row of cells; a number beside a row of cells; the map. -/
abbrev KShape : Type := Value ⊕ List Value ⊕ (Nat × List Value) ⊕ Unit
/-- One kind: the place of its insert among the operations, class, id, how long, the cells of its fields. -/
structure KRow where
  at_ : Nat
  a : Nat
  b : Nat
  len : Nat
  cs : List Value
/-- An entry of the map: a kind's. -/
def KEntry (E : TypeId) (w : World) (k : KRow) (e : MapEntry) : Prop :=
  e.key = .agg #[.int .u8 (k.a : Nat), .int .u8 (k.b : Nat)] ∧ ∃ b n, e.val = .agg #[.int .i64 (k.len : Nat), .slice (some ⟨b, 0, none⟩) n n] ∧ n = k.cs.length / 3 ∧ w.heap[b]? = some (.cells k.cs.toArray E)
def KMap (E : TypeId) (W : World) (K : List KRow) (L : Nat → Bool) (w : World) (m : Nat) : Prop :=
  W.heap.size ≤ m ∧ ∃ es clk, w.heap[m]? = some (.map es clk) ∧ (∀ e ∈ es.toList, ∃ k ∈ K, L k.at_ = true ∧ KEntry E w k e) ∧ (∀ k ∈ K, L k.at_ = true → ∃ e ∈ es.toList, KEntry E w k e)
def KLeft (E : TypeId) (W : World) (K : List KRow) (L : Nat → Bool) (s : KShape) (w : World) (v : Value) : Prop :=
  match s with
  | .inl x => v = x
  | .inr (.inl cs) => ∃ b n, v = .slice (some ⟨b, 0, none⟩) n n ∧ n = cs.length / 3 ∧ w.heap[b]? = some (.cells cs.toArray E)
  | .inr (.inr (.inl p)) => ∃ b n, v = .agg #[.int .i64 (p.1 : Nat), .slice (some ⟨b, 0, none⟩) n n] ∧ n = p.2.length / 3 ∧ w.heap[b]? = some (.cells p.2.toArray E)
  | .inr (.inr (.inr _)) => ∃ m, v = .map (some m) ∧ KMap E W K L w m
/-- Blocks that are no maps stay. -/
def KKept (w w' : World) : Prop := ∀ (b : Nat) (cs : Array Value) (E : TypeId) (fr : Nat × Nat), w.heap[b]? = some (Obj.cells cs E fr) → w'.heap[b]? = some (Obj.cells cs E fr)
theorem KKept.of_grew {w w' : World} (g : Grew w w') : KKept w w' := fun b _ _ _ h => (Below.block g b (Array.getElem?_eq_some_iff.1 h).1).trans h
theorem KEntry.kept {E : TypeId} {w w' : World} {k : KRow} {e : MapEntry} (h : KEntry E w k e) (g : KKept w w') : KEntry E w' k e := by
  obtain ⟨h1, b, n, h2, h3, h4⟩ := h
  exact ⟨h1, b, n, h2, h3, g _ _ _ _ h4⟩
theorem also_ne {L : Nat → Bool} {i k : Nat} (h : k ≠ i) : also L i k = L k := by unfold also; simp [h]
theorem KMap.also {E : TypeId} {W : World} {K : List KRow} {L : Nat → Bool} {w w' : World} {m i : Nat} (h : KMap E W K L w m) (g : Grew w w') (hi : ∀ k ∈ K, k.at_ ≠ i) : KMap E W K (also L i) w' m := by
  obtain ⟨h0, es, clk, h1, h2, h3⟩ := h
  refine ⟨h0, es, clk, (Below.block g m (Array.getElem?_eq_some_iff.1 h1).1).trans h1, fun e he => ?_, fun k hk hl => ?_⟩
  · obtain ⟨k, hk, hl, he⟩ := h2 e he
    exact ⟨k, hk, by rw [also_ne (hi k hk)]; exact hl, he.kept (.of_grew g)⟩
  · rw [also_ne (hi k hk)] at hl
    obtain ⟨e, he, hx⟩ := h3 k hk hl
    exact ⟨e, he, hx.kept (.of_grew g)⟩
theorem KLeft.also {E : TypeId} {W : World} {K : List KRow} {L : Nat → Bool} {s : KShape} {w w' : World} {v : Value} {i : Nat} (h : KLeft E W K L s w v) (g : Grew w w') (hi : ∀ k ∈ K, k.at_ ≠ i) : KLeft E W K (also L i) s w' v := by
  rcases s with x | cs | p | u
  · exact h
  · obtain ⟨b, n, h1, h2, h3⟩ := h
    exact ⟨b, n, h1, h2, KKept.of_grew g _ _ _ _ h3⟩
  · obtain ⟨b, n, h1, h2, h3⟩ := h
    exact ⟨b, n, h1, h2, KKept.of_grew g _ _ _ _ h3⟩
  · obtain ⟨m, h1, h2⟩ := h
    exact ⟨m, h1, h2.also g hi⟩

section
variable {P : Program} {Q : Exit → Act → World → Prop} {o : Oper} {a : Act} {w w1 W : World} {E : TypeId} {K : List KRow} {L : Nat → Bool} {ops : Array Oper} {sh : Nat → KShape} {i : Nat}
theorem km_of (hd : ∀ j d, L j = true → writes ops j d = true → KLeft E W K L (sh j) w (a.tmps[d]?.getD undef)) (g : Grew W w) (hi : K.all (fun k => k.at_ != i) = true)
    (h : o.wp P a w (fun a' w'' => ∃ v, a' = a.put o.dst v ∧ KLeft E W K (also L i) (sh i) w'' v ∧ Grew w w'') Q) :
    o.wp P a w (fun a' w' => ∃ v, a' = a.put o.dst v ∧ (∀ d, o.dst = some d → KLeft E W K (also L i) (sh i) w' v) ∧ (∀ j d, L j = true → writes ops j d = true → KLeft E W K (also L i) (sh j) w' (a.tmps[d]?.getD undef)) ∧ Grew W w') Q :=
  Oper.wp_mono (fun a' w' ⟨v, h1, h2, h3⟩ => ⟨v, h1, fun _ _ => h2, fun j d hl hw => (hd j d hl hw).also h3 (fun k hk => by have := List.all_eq_true.1 hi k hk; simpa using this), g.trans h3⟩) h
end
end Go.Proofs.Ytcdmbnbanopioaa
