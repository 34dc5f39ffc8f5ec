/-
  The document's SiRF messages: kinds; a field's bytes the other way round; the same messages.
  A region that draws its order, whose operations each leave what they leave whatever the others do: each is run once.
  A region that draws its order and fills a map: each operation is run once, whatever has come up ahead of it.
  The document's SiRF messages: a payload read: one field.
  The document's SiRF messages: a payload read.
  What a frame acknowledges: plain, and the document's answer.
  A region that calls Decode of UBX and keeps what it tells in a variable, whatever comes up first.
  The document's answer: what a frame acknowledges.
  The document's dialogue: a frame that is heard.
  The laws of dialogues: what the program's calls tell; the page's example. The program's calls are handed in.
  The laws of dialogues: which lists are looked at, which may be.
  Dialogues as the program holds them, plain: those that ended, one in flight, those that were not sent.
  The program's dialogue behind a pointer: what stands where; whether it was made, whether one is in flight, how many are done.
  The program's dialogue: what is written where: its seven cells; the one in flight.
  The program's dialogue: a command is sent; the next one is sent.
  The program's dialogue: a tick.
  The program's dialogue: a copy; calls of one that is not there.
  The program's table of UBX kinds: a map keyed by two bytes: an entry laid, an entry found.
-/
import Derived.Test.YtcdmbnbanopioaaGreatDoorP02
import Derived.Orders
import Derived.RegionTactic
import Derived.Lib.SliceRun
import Derived.LoopTactic
import Derived.Deep.LoopGhost
import Derived.StillTailTactics
import Derived.Deep.QuietTactic
import Derived.BigQuiet
import Derived.ChangeMaps5

namespace Go.Proofs.YtcdmbnbanopioaaGreatDoor
open Go.RowKit
set_option linter.unusedVariables false

/-- The codes of the kinds. -/
def isSrf (c : Nat) : Prop := c = 2 ∨ c = 4 ∨ c = 7 ∨ c = 41 ∨ c = 52 ∨ c = 11 ∨ c = 12 ∨ c = 166
theorem srf_no {c : Nat} (h : ¬ isSrf c) : srfLay c = (0, []) := by
  unfold isSrf at h
  unfold srfLay
  rw [if_neg (by omega), if_neg (by omega), if_neg (by omega), if_neg (by omega), if_neg (by omega), if_neg (by omega), if_neg (by omega), if_neg (by omega)]
set_option maxHeartbeats 2000000 in
theorem ref13_Layout (c : Nat) (w : World) (hc : c < 256) :
    Calls Tryz.prog 54 #[.int .u8 (c : Nat)] w fun e w' => ∃ v, e = .returned (.tuple #[.int .i64 ((srfLay c).1 : Nat), v]) ∧ RowZ .i64 w' v (srfLay c).2 ∧ Grew w w' := by
  by_cases h : isSrf c
  · rcases h with rfl | rfl | rfl | rfl | rfl | rfl | rfl | rfl
    all_goals
      go_enter Tryz.func54, Tryz.ntmps54
      go_wp2_with fail
      go_ret2
      exact ⟨_, rfl, row_litZ' _ _ _ _ _ _ _ rfl rfl, (Grew.refl w).alloc _⟩
  · rw [srf_no h]
    unfold isSrf at h
    have k1 : ¬ (c : Int) = 2 := by omega
    have k2 : ¬ (c : Int) = 4 := by omega
    have k3 : ¬ (c : Int) = 7 := by omega
    have k4 : ¬ (c : Int) = 41 := by omega
    have k5 : ¬ (c : Int) = 52 := by omega
    have k6 : ¬ (c : Int) = 11 := by omega
    have k7 : ¬ (c : Int) = 12 := by omega
    have k8 : ¬ (c : Int) = 166 := by omega
    clear h
    go_enter Tryz.func54, Tryz.ntmps54
    go_wp2_with fail
    go_ret2
    exact ⟨_, rfl, RowZ.nil _ _, Grew.refl w⟩
/-- Two cells of a block that may be written. -/
structure TwoC (w : World) (b : Nat) (x y : Value) : Prop where
  lt : b < w.heap.size
  c0 : w.cell? ⟨b, 0, none⟩ = some x
  c1 : w.cell? ⟨b, 1, none⟩ = some y
  f0 : w.frozen? ⟨b, 0, none⟩ = false
  f1 : w.frozen? ⟨b, 1, none⟩ = false
theorem TwoC.far {F : Nat → Prop} {w w' : World} {b : Nat} {x y : Value} (h : TwoC w b x y) (g : Far F w w') (hF : ¬ F b) : TwoC w' b x y :=
  ⟨Nat.lt_of_lt_of_le h.lt g.size, (g.cell (p := ⟨b, 0, none⟩) h.lt hF).trans h.c0, (g.cell (p := ⟨b, 1, none⟩) h.lt hF).trans h.c1, (g.frozen (p := ⟨b, 0, none⟩) h.lt hF).trans h.f0, (g.frozen (p := ⟨b, 1, none⟩) h.lt hF).trans h.f1⟩
theorem TwoC.grew {w w' : World} {b : Nat} {x y : Value} (h : TwoC w b x y) (g : Grew w w') : TwoC w' b x y := h.far (F := fun _ => False) (Far.of_grew g) (fun q => q)
theorem twoC_new (w : World) (x y : Value) (E : TypeId) : ∃ W, w.alloc (.cells #[x, y] E) = W ∧ Grew w W ∧ TwoC W w.heap.size x y :=
  ⟨_, rfl, (Grew.refl _).alloc _, by simp, by simp [go_sem], by simp [go_sem], by simp [go_sem], by simp [go_sem]⟩
theorem TwoC.put1 {w : World} {b : Nat} {x y : Value} (h : TwoC w b x y) (u : Value) : TwoC (w.setCell ⟨b, 1, none⟩ u) b x u := by
  obtain ⟨h1, h2, h3, h5, h6⟩ := h
  exact ⟨by simpa using h1, by simp [go_sem, h2], by simp [go_sem, h3], by simp [go_sem, h5], by simp [go_sem, h6]⟩
theorem twoC_put {w W : World} {b : Nat} (g : Grew w W) (hb : w.heap.size ≤ b) (x y : Value) : Grew w ((W.setCell ⟨b, 0, none⟩ x).setCell ⟨b, 1, none⟩ y) := (g.setCell hb _).setCell hb _
end Go.Proofs.YtcdmbnbanopioaaGreatDoor

namespace Go.Proofs.YtcdmbnbanopioaaGreatDoor
open Go.RowKit
set_option linter.unusedVariables false

/-- No guards; each operation waits for earlier ones alone, and writes a slot of its own. -/
def locB (n : Nat) (ops : Array Oper) : Bool :=
  (List.range ops.size).all fun i => match ops[i]? with
    | none => true
    | some o => o.guard.isNone && o.after.all (fun e => decide (e.on < i)) && (match o.dst with | none => false | some d => decide (d < n) && (List.range ops.size).all fun j => i == j || (match ops[j]? with | none => true | some p => p.dst != some d))
structure Loc (n : Nat) (ops : Array Oper) (i : Nat) (o : Oper) : Prop where
  guard : o.guard = none
  after : ∀ e ∈ o.after, e.on < i
  dst : ∃ d, o.dst = some d ∧ d < n ∧ ∀ j p, ops[j]? = some p → p.dst = some d → i = j
theorem loc_of {n : Nat} {ops : Array Oper} (h : locB n ops = true) (i : Nat) (o : Oper) (ho : ops[i]? = some o) : Loc n ops i o := by
  have hi : i < ops.size := (Array.getElem?_eq_some_iff.1 ho).1
  have h1 := List.all_eq_true.1 h i (List.mem_range.2 hi)
  simp only [ho, Bool.and_eq_true] at h1
  obtain ⟨⟨hg, ha⟩, hd⟩ := h1
  refine ⟨by simpa using hg, fun e he => ?_, ?_⟩
  · have := (Array.all_eq_true'.1 ha) e he
    simpa using this
  · cases hq : o.dst with
    | none => rw [hq] at hd; cases hd
    | some d =>
      rw [hq] at hd
      simp only [Bool.and_eq_true, decide_eq_true_eq] at hd
      refine ⟨d, rfl, hd.1, fun j p hp hpd => ?_⟩
      have hj : j < ops.size := (Array.getElem?_eq_some_iff.1 hp).1
      have := List.all_eq_true.1 hd.2 j (List.mem_range.2 hj)
      simp only [hp, hpd, bne_self_eq_false, Bool.or_false, beq_iff_eq] at this
      exact this

/-- How many have not come up. -/
def unlisted (listed : Array Bool) : Nat → Nat
  | 0 => 0
  | k + 1 => unlisted listed k + if listed.getD k true = true then 0 else 1
theorem unlisted_all {listed : Array Bool} : ∀ {n : Nat}, unlisted listed n = 0 → ∀ k, k < n → listed.getD k true = true
  | 0, _, k, hk => absurd hk (by omega)
  | n + 1, h, k, hk => by
    rw [unlisted] at h
    by_cases e : k = n
    · subst e
      by_cases q : listed.getD k true = true
      · exact q
      · rw [if_neg q] at h; omega
    · exact unlisted_all (n := n) (by omega) k (by omega)
theorem getD_set (listed : Array Bool) (i k : Nat) (hi : i < listed.size) (b : Bool) : (listed.setIfInBounds i true).getD k b = if k = i then true else listed.getD k b := by
  by_cases h : k = i
  · subst h; simp [hi]
  · rw [if_neg h]; simp [Ne.symm h]
theorem unlisted_same {listed : Array Bool} {i : Nat} (hi : i < listed.size) : ∀ n, n ≤ i → unlisted (listed.setIfInBounds i true) n = unlisted listed n
  | 0, _ => rfl
  | n + 1, h => by rw [unlisted, unlisted, unlisted_same hi n (by omega), getD_set _ _ _ hi, if_neg (show ¬ n = i by omega)]
theorem unlisted_set {listed : Array Bool} {i : Nat} (hi : i < listed.size) (hf : listed.getD i true = false) : ∀ n, i < n → unlisted (listed.setIfInBounds i true) n + 1 = unlisted listed n
  | 0, h => absurd h (by omega)
  | n + 1, h => by
    rw [unlisted, unlisted, getD_set _ _ _ hi]
    by_cases e : n = i
    · subst e
      rw [if_pos rfl, hf, unlisted_same hi n (Nat.le_refl _)]
      simp
    · rw [if_neg e, ← unlisted_set hi hf n (by omega)]
      omega
theorem ready_all {md : Region.Mode} {n : Nat} {ops : Array Oper} (h : locB n ops = true) {listed : Array Bool} (hs : listed.size = ops.size) (hr : Region.ready md ops listed = []) : ∀ k, k < ops.size → listed.getD k true = true := by
  intro k
  induction k using Nat.strongRecOn with
  | _ k ih =>
    intro hk
    by_cases q : listed.getD k true = true
    · exact q
    · exfalso
      have : k ∈ Region.ready md ops listed := by
        unfold Region.ready
        rw [List.mem_filter, List.mem_range]
        refine ⟨hk, ?_⟩
        have L := loc_of h k _ (Array.getElem?_eq_getElem hk)
        rw [Array.getElem?_eq_getElem hk]
        simp only [Option.map_some, Option.getD_some, Bool.and_eq_true, Bool.not_eq_true']
        refine ⟨by simpa using q, Array.all_eq_true'.2 fun e he => ?_⟩
        have hlt := L.after e he
        have hl := ih e.on hlt (by omega)
        have hsz : e.on < listed.size := by omega
        rw [Bool.or_eq_true]
        right
        simpa [hsz] using hl
      rw [hr] at this
      cases this

section
variable {P : Program} {ops : Array Oper} {Q : Exit → Act → World → Prop}
/-- What has come up has left what its operation leaves; nothing else has turned. -/
structure LocInv (ops : Array Oper) (Spec : Nat → World → Value → Prop) (W : World) (a0 : Act) (listed : Array Bool) (a : Act) (w : World) : Prop where
  size : listed.size = ops.size
  defers : a.defers = a0.defers
  slots : a.tmps.size = a0.tmps.size
  other : ∀ k, (∀ (j : Nat) (p : Oper), ops[j]? = some p → p.dst ≠ some k) → a.tmps.getD k undef = a0.tmps.getD k undef
  done : ∀ (j : Nat) (p : Oper) (d : Nat), ops[j]? = some p → listed.getD j true = true → p.dst = some d → Spec j w (a.tmps.getD d undef)
  grew : Grew W w
theorem tmp_set (a : Array Value) (d k : Nat) (v : Value) (hd : d < a.size) : (a.setIfInBounds d v).getD k undef = if k = d then v else a.getD k undef := by
  by_cases h : k = d
  · subst h; simp [hd]
  · rw [if_neg h]; simp [Ne.symm h]
theorem loc_any {n : Nat} (hB : locB n ops = true) (Spec : Nat → World → Value → Prop) (W : World) (a0 : Act) (hn : a0.tmps.size = n)
    (stable : ∀ i w w' v, Grew w w' → Spec i w v → Spec i w' v)
    (step : ∀ (i : Nat) (o : Oper) (a : Act) (w : World), ops[i]? = some o → (∀ k, (∀ (j : Nat) (p : Oper), ops[j]? = some p → p.dst ≠ some k) → a.tmps.getD k undef = a0.tmps.getD k undef) →
      (∀ e ∈ o.after, Region.binds .any e = true → ∀ (p : Oper) (d : Nat), ops[e.on]? = some p → p.dst = some d → Spec e.on w (a.tmps.getD d undef)) → Grew W w →
      o.wp P a w (fun a' w' => ∃ v, a' = a.put o.dst v ∧ Spec i w' v ∧ Grew w w') Q)
    (fin : ∀ (a : Act) (w : World), a.defers = a0.defers → a.tmps.size = n → (∀ k, (∀ (j : Nat) (p : Oper), ops[j]? = some p → p.dst ≠ some k) → a.tmps.getD k undef = a0.tmps.getD k undef) →
      (∀ (j : Nat) (p : Oper) (d : Nat), ops[j]? = some p → p.dst = some d → Spec j w (a.tmps.getD d undef)) → Grew W w → Q .normal a w) :
    ∀ (fuel : Nat) (listed : Array Bool) (a : Act) (w : World), LocInv ops Spec W a0 listed a w → unlisted listed ops.size = fuel → wpAny P .any ops Q fuel listed a w := by
  have fin' : ∀ (listed : Array Bool) (a : Act) (w : World), LocInv ops Spec W a0 listed a w → (∀ k, k < ops.size → listed.getD k true = true) → Q .normal a w := fun listed a w h hl =>
    fin a w h.defers (h.slots.trans hn) h.other (fun j p d hj hd => h.done j p d hj (hl j (Array.getElem?_eq_some_iff.1 hj).1) hd) h.grew
  intro fuel
  induction fuel with
  | zero =>
    intro listed a w h h0
    have hl := unlisted_all h0
    refine ⟨?_, fin' listed a w h hl⟩
    unfold Region.ready
    rw [List.filter_eq_nil_iff]
    intro i hi
    rw [List.mem_range] at hi
    simp [hl i hi]
  | succ fuel ih =>
    intro listed a w h hf
    refine ⟨fun hr => fin' listed a w h (ready_all hB h.size hr), fun i hi => ?_⟩
    unfold Region.ready at hi
    rw [List.mem_filter, List.mem_range] at hi
    obtain ⟨hlt, hi⟩ := hi
    have ho := Array.getElem?_eq_getElem hlt
    generalize ops[i] = o at ho
    have L := loc_of hB i o ho
    rw [ho] at hi
    simp only [Option.map_some, Option.getD_some, Bool.and_eq_true, Bool.not_eq_true'] at hi
    obtain ⟨hun, haf⟩ := hi
    obtain ⟨d, hd, hdn, huniq⟩ := L.dst
    have hls : i < listed.size := by rw [h.size]; exact hlt
    unfold wpOp
    simp only [ho]
    rw [if_pos (by simp [Region.wanted, L.guard])]
    refine .inl (Oper.wp_mono ?_ (step i o a w ho h.other ?_ h.grew))
    · rintro a' w' ⟨v, rfl, hS, hG⟩
      refine ih _ _ _ ⟨by simpa using h.size, ?_, ?_, ?_, ?_, h.grew.trans hG⟩ ?_
      · rw [hd]; exact h.defers
      · rw [hd]; simpa [Act.put] using h.slots
      · intro k hk
        rw [hd]
        show (a.tmps.setIfInBounds d v).getD k undef = _
        rw [tmp_set _ _ _ _ (by rw [h.slots, hn]; exact hdn), if_neg (fun e => hk i o ho (by rw [hd, e]))]
        exact h.other k hk
      · intro j p d' hj hl hd'
        rw [hd]
        show Spec j w' ((a.tmps.setIfInBounds d v).getD d' undef)
        rw [tmp_set _ _ _ _ (by rw [h.slots, hn]; exact hdn)]
        by_cases e : d' = d
        · subst e
          rw [if_pos rfl]
          obtain rfl := huniq j p hj hd'
          exact hS
        · rw [if_neg e]
          have hne : j ≠ i := fun q => by
            subst q
            rw [ho] at hj
            obtain rfl := Option.some.inj hj
            rw [hd] at hd'
            exact e (Option.some.inj hd').symm
          rw [getD_set _ _ _ hls, if_neg hne] at hl
          exact stable j w w' _ hG (h.done j p d' hj hl hd')
      · have := unlisted_set hls hun ops.size hlt
        omega
    · intro e he hb p d' hp hd'
      have h1 := Array.all_eq_true'.1 haf e he
      rw [hb] at h1
      simp only [Bool.not_true, Bool.false_or] at h1
      have hsz : e.on < listed.size := by rw [h.size]; exact (Array.getElem?_eq_some_iff.1 hp).1
      exact h.done e.on p d' hp (by simpa [hsz] using h1) hd'
/-- The region's law. -/
theorem wp_region_locs {id n : Nat} {a0 : Act} {w : World} (hm : P.follows .mixedOrders = true) (hB : locB n ops = true) (hn : a0.tmps.size = n) (Spec : Nat → World → Value → Prop)
    (stable : ∀ i w w' v, Grew w w' → Spec i w v → Spec i w' v)
    (step : ∀ (i : Nat) (o : Oper) (a : Act) (w' : World), ops[i]? = some o → (∀ k, (∀ (j : Nat) (p : Oper), ops[j]? = some p → p.dst ≠ some k) → a.tmps.getD k undef = a0.tmps.getD k undef) →
      (∀ e ∈ o.after, Region.binds .any e = true → ∀ (p : Oper) (d : Nat), ops[e.on]? = some p → p.dst = some d → Spec e.on w' (a.tmps.getD d undef)) → Grew w w' →
      o.wp P a w' (fun a' w'' => ∃ v, a' = a.put o.dst v ∧ Spec i w'' v ∧ Grew w' w'') Q)
    (fin : ∀ (a : Act) (w' : World), a.defers = a0.defers → a.tmps.size = n → (∀ k, (∀ (j : Nat) (p : Oper), ops[j]? = some p → p.dst ≠ some k) → a.tmps.getD k undef = a0.tmps.getD k undef) →
      (∀ (j : Nat) (p : Oper) (d : Nat), ops[j]? = some p → p.dst = some d → Spec j w' (a.tmps.getD d undef)) → Grew w w' → Q .normal a w') :
    (Code.region id ops true).wp P Q a0 w := by
  have hz : ∀ m, m ≤ ops.size → unlisted (Array.replicate ops.size false) m = m := fun m => by
    induction m with
    | zero => intro _; rfl
    | succ m ih => intro h; rw [unlisted, ih (by omega)]; simp [show m < ops.size by omega]
  refine wp_region_any hm (loc_any hB Spec w a0 hn stable step fin _ _ _ _ ⟨by simp, rfl, rfl, fun _ _ => rfl, fun j p d hj hl _ => ?_, (Grew.refl w).drew⟩ (hz _ (Nat.le_refl _)))
  have := (Array.getElem?_eq_some_iff.1 hj).1
  simp [this] at hl

/-- All of a list, each with its place. -/
def AllFrom {α : Type} (φ : Nat → α → Prop) : Nat → List α → Prop
  | _, [] => True
  | n, o :: l => φ n o ∧ AllFrom φ (n + 1) l
theorem all_from {α : Type} {φ : Nat → α → Prop} : ∀ (l : List α) (n i : Nat) (o : α), AllFrom φ n l → l[i]? = some o → φ (n + i) o
  | [], _, _, _, _, h => by simp at h
  | x :: l, n, 0, o, h, e => by simp at e; subst e; exact h.1
  | x :: l, n, i + 1, o, h, e => by
    have := all_from l (n + 1) i o h.2 (by simpa using e)
    rwa [show n + 1 + i = n + (i + 1) by omega] at this
/-- No operation of the region writes the slot; operation j writes slot d; an operation waits for it. -/
def freeSlot (ops : Array Oper) (k : Nat) : Bool := ops.all fun p => p.dst != some k
def writes (ops : Array Oper) (j d : Nat) : Bool := match ops[j]? with | none => false | some p => p.dst == some d
def waits (o : Oper) (j : Nat) : Bool := o.after.any fun e => e.on == j && Region.binds .any e
/-- The region's law, operation by operation. -/
theorem wp_region_each {id n : Nat} {l : List Oper} {a0 : Act} {w : World} (Spec : Nat → World → Value → Prop) (hm : P.follows .mixedOrders = true) (hB : locB n l.toArray = true) (hn : a0.tmps.size = n)
    (stable : ∀ i w w' v, Grew w w' → Spec i w v → Spec i w' v)
    (step : AllFrom (fun i o => ∀ (a : Act) (w' : World), (∀ k, freeSlot l.toArray k = true → a.tmps[k]?.getD undef = a0.tmps[k]?.getD undef) →
      (∀ j d, waits o j = true → writes l.toArray j d = true → Spec j w' (a.tmps[d]?.getD undef)) → Grew w w' →
      o.wp P a w' (fun a' w'' => ∃ v, a' = a.put o.dst v ∧ Spec i w'' v ∧ Grew w' w'') Q) 0 l)
    (fin : ∀ (a : Act) (w' : World), a.defers = a0.defers → a.tmps.size = n → (∀ k, freeSlot l.toArray k = true → a.tmps[k]?.getD undef = a0.tmps[k]?.getD undef) →
      (∀ j d, writes l.toArray j d = true → Spec j w' (a.tmps[d]?.getD undef)) → Grew w w' → Q .normal a w') :
    (Code.region id l.toArray true).wp P Q a0 w := by
  have free : ∀ (a : Act) k, (∀ k, (∀ (j : Nat) (p : Oper), l.toArray[j]? = some p → p.dst ≠ some k) → a.tmps.getD k undef = a0.tmps.getD k undef) → freeSlot l.toArray k = true → a.tmps[k]?.getD undef = a0.tmps[k]?.getD undef := fun a k h hk => by
    rw [← Array.getD_eq_getD_getElem?, ← Array.getD_eq_getD_getElem?]
    refine h k fun j p hp e => ?_
    have := Array.all_eq_true'.1 hk p (Array.mem_of_getElem? hp)
    rw [e] at this
    simp at this
  refine wp_region_locs hm hB hn Spec stable (fun i o a w' ho h1 h2 h3 => ?_) (fun a w' h1 h2 h3 h4 h5 => fin a w' h1 h2 (fun k => free a k h3) (fun j d hw => ?_) h5)
  · have := all_from l 0 i o step (by simpa using ho)
    rw [Nat.zero_add] at this
    refine this a w' (fun k => free a k h1) (fun j d hj hw => ?_) h3
    rw [← Array.getD_eq_getD_getElem?]
    unfold waits at hj
    obtain ⟨e, he, hb⟩ := Array.any_eq_true'.1 hj
    simp only [Bool.and_eq_true, beq_iff_eq] at hb
    obtain ⟨rfl, hb⟩ := hb
    unfold writes at hw
    cases hq : l.toArray[e.on]? with
    | none => rw [hq] at hw; cases hw
    | some p => rw [hq] at hw; exact h2 e he hb p d hq (by simpa using hw)
  · rw [← Array.getD_eq_getD_getElem?]
    unfold writes at hw
    cases hq : l.toArray[j]? with
    | none => rw [hq] at hw; cases hw
    | some p => rw [hq] at hw; exact h4 j p d hq (by simpa using hw)
end

/-- What an operation leaves: a value; a row; a row beside an error. -/
def Left3 (s : Value ⊕ (IntKind × List Nat) ⊕ (List Nat × Nat)) (w : World) (v : Value) : Prop :=
  match s with
  | .inl x => v = x
  | .inr (.inl p) => Row p.1 w v p.2
  | .inr (.inr p) => ∃ u, v = .tuple #[u, .int .i64 (p.2 : Nat)] ∧ Row .u8 w u p.1
theorem Left3.grew {s : Value ⊕ (IntKind × List Nat) ⊕ (List Nat × Nat)} {w w' : World} {v : Value} (g : Grew w w') (h : Left3 s w v) : Left3 s w' v := by
  rcases s with x | p | p
  · exact h
  · exact Row.grew h g
  · obtain ⟨u, e, r⟩ := h
    exact ⟨u, e, r.grew g⟩
theorem eval_const (a : Act) (v : Value) : a.eval (.const v) = v := rfl
theorem eval_func (a : Act) (f : FuncId) : a.eval (.func f) = .func (.func f) #[] #[] := rfl
theorem eval_global (a : Act) (g : Nat) : a.eval (.global g) = .pointer (some ⟨g, 0, none⟩) := rfl
section
variable {P : Program} {Q : Exit → Act → World → Prop} {o : Oper} {a : Act} {w w1 : World} {S : World → Value → Prop}
theorem each_value {v : Value} (h : (execOp a.eval o).run P w = .ok (.value v) w) (hs : S w v) : o.wp P a w (fun a' w'' => ∃ v, a' = a.put o.dst v ∧ S w'' v ∧ Grew w w'') Q := by
  unfold Oper.wp; rw [h]; exact ⟨v, rfl, hs, Grew.refl w⟩
theorem each_made {v : Value} (h : (execOp a.eval o).run P w = .ok (.value v) w1) (g : Grew w w1) (hs : S w1 v) : o.wp P a w (fun a' w'' => ∃ v, a' = a.put o.dst v ∧ S w'' v ∧ Grew w w'') Q := by
  unfold Oper.wp; rw [h]; exact ⟨v, rfl, hs, g⟩
theorem each_call {f : FuncId} {args : Array Value} (h : (execOp a.eval o).run P w = .ok (.enter f args) w) (hc : Calls P f args w fun e w' => ∃ v, e = .returned v ∧ S w' v ∧ Grew w w') : o.wp P a w (fun a' w'' => ∃ v, a' = a.put o.dst v ∧ S w'' v ∧ Grew w w'') Q := by
  unfold Oper.wp; rw [h, Oper.upon_enter]
  refine hc.mono ?_
  rintro e w' ⟨v, rfl, hs, g⟩
  exact ⟨v, rfl, hs, g⟩
end
end Go.Proofs.YtcdmbnbanopioaaGreatDoor

namespace Go.Proofs.YtcdmbnbanopioaaGreatDoor
open Go.RowKit
set_option linter.unusedVariables false

/-- No guards; each operation waits for earlier ones alone; it writes a slot of its own, or none. -/
def locmB (n : Nat) (ops : Array Oper) : Bool :=
  (List.range ops.size).all fun i => match ops[i]? with
    | none => true
    | some o => o.guard.isNone && o.after.all (fun e => !Region.binds .any e || decide (e.on < i)) && (match o.dst with | none => true | some d => decide (d < n) && (List.range ops.size).all fun j => i == j || (match ops[j]? with | none => true | some p => p.dst != some d))
structure Locm (n : Nat) (ops : Array Oper) (i : Nat) (o : Oper) : Prop where
  guard : o.guard = none
  after : ∀ e ∈ o.after, Region.binds .any e = true → e.on < i
  dst : ∀ d, o.dst = some d → d < n ∧ ∀ j p, ops[j]? = some p → p.dst = some d → i = j
theorem locm_of {n : Nat} {ops : Array Oper} (h : locmB n ops = true) (i : Nat) (o : Oper) (ho : ops[i]? = some o) : Locm n ops i o := by
  have hi : i < ops.size := (Array.getElem?_eq_some_iff.1 ho).1
  have h1 := List.all_eq_true.1 h i (List.mem_range.2 hi)
  simp only [ho, Bool.and_eq_true] at h1
  obtain ⟨⟨hg, ha⟩, hd⟩ := h1
  refine ⟨by simpa using hg, fun e he hb => ?_, fun d hq => ?_⟩
  · have := (Array.all_eq_true'.1 ha) e he
    rw [hb] at this
    simpa using this
  · rw [hq] at hd
    simp only [Bool.and_eq_true, decide_eq_true_eq] at hd
    refine ⟨hd.1, fun j p hp hpd => ?_⟩
    have hj : j < ops.size := (Array.getElem?_eq_some_iff.1 hp).1
    have := List.all_eq_true.1 hd.2 j (List.mem_range.2 hj)
    simp only [hp, hpd, bne_self_eq_false, Bool.or_false, beq_iff_eq] at this
    exact this
theorem readym_all {n : Nat} {ops : Array Oper} (h : locmB n ops = true) {listed : Array Bool} (hs : listed.size = ops.size) (hr : Region.ready .any ops listed = []) : ∀ k, k < ops.size → listed.getD k true = true := by
  intro k
  induction k using Nat.strongRecOn with
  | _ k ih =>
    intro hk
    by_cases q : listed.getD k true = true
    · exact q
    · exfalso
      have : k ∈ Region.ready .any ops listed := by
        unfold Region.ready
        rw [List.mem_filter, List.mem_range]
        refine ⟨hk, ?_⟩
        have L := locm_of h k _ (Array.getElem?_eq_getElem hk)
        rw [Array.getElem?_eq_getElem hk]
        simp only [Option.map_some, Option.getD_some, Bool.and_eq_true, Bool.not_eq_true']
        refine ⟨by simpa using q, Array.all_eq_true'.2 fun e he => ?_⟩
        by_cases hbe : Region.binds .any e = true
        case neg => simp [hbe]
        have hlt := L.after e he hbe
        have hl := ih e.on hlt (by omega)
        have hsz : e.on < listed.size := by omega
        rw [Bool.or_eq_true]
        right
        simpa [hsz] using hl
      rw [hr] at this
      cases this
/-- What has come up; one more. -/
def got (listed : Array Bool) (k : Nat) : Bool := listed.getD k false
def also (L : Nat → Bool) (i k : Nat) : Bool := k == i || L k
theorem got_true {listed : Array Bool} {k : Nat} (h : k < listed.size) : got listed k = listed.getD k true := by unfold got; simp [h]
theorem got_set {listed : Array Bool} {i : Nat} (h : i < listed.size) : got (listed.setIfInBounds i true) = also (got listed) i := by
  funext k
  unfold also got
  rw [getD_set _ _ _ h]
  by_cases e : k = i
  · simp [e]
  · rw [if_neg e]; simp [e]
def freeSlotA (ops : Array Oper) (k : Nat) : Bool := ops.all fun p => p.dst != some k
def waitsAt (ops : Array Oper) (j k : Nat) : Bool := match ops[j]? with | none => false | some p => waits p k

section
variable {P : Program} {ops : Array Oper} {Q : Exit → Act → World → Prop}
structure LocmInv (ops : Array Oper) (Spec : (Nat → Bool) → Nat → World → Value → Prop) (G : (Nat → Bool) → World → Prop) (a0 : Act) (listed : Array Bool) (a : Act) (w : World) : Prop where
  size : listed.size = ops.size
  defers : a.defers = a0.defers
  slots : a.tmps.size = a0.tmps.size
  other : ∀ k, freeSlotA ops k = true → a.tmps.getD k undef = a0.tmps.getD k undef
  done : ∀ (j d : Nat), got listed j = true → writes ops j d = true → Spec (got listed) j w (a.tmps.getD d undef)
  closed : ∀ (j k : Nat), got listed j = true → waitsAt ops j k = true → got listed k = true
  grew : G (got listed) w
theorem freeA_no {ops : Array Oper} {k i : Nat} {o : Oper} (h : freeSlotA ops k = true) (ho : ops[i]? = some o) : o.dst ≠ some k := fun e => by
  have := Array.all_eq_true'.1 h o (Array.mem_of_getElem? ho)
  rw [e] at this
  simp at this
theorem locm_any {n : Nat} (hB : locmB n ops = true) (Spec : (Nat → Bool) → Nat → World → Value → Prop) (G : (Nat → Bool) → World → Prop) (a0 : Act) (hn : a0.tmps.size = n)
    (step : ∀ (i : Nat) (o : Oper) (L : Nat → Bool) (a : Act) (w : World), ops[i]? = some o → L i = false → (∀ k, freeSlotA ops k = true → a.tmps.getD k undef = a0.tmps.getD k undef) →
      (∀ j, waits o j = true → L j = true) → (∀ j k, L j = true → waitsAt ops j k = true → L k = true) → (∀ j d, L j = true → writes ops j d = true → Spec L j w (a.tmps.getD d undef)) → G L w →
      o.wp P a w (fun a' w' => ∃ v, a' = a.put o.dst v ∧ (∀ d, o.dst = some d → Spec (also L i) i w' v) ∧ (∀ j d, L j = true → writes ops j d = true → Spec (also L i) j w' (a.tmps.getD d undef)) ∧ G (also L i) w') Q)
    (fin : ∀ (L : Nat → Bool) (a : Act) (w : World), (∀ k, k < ops.size → L k = true) → a.defers = a0.defers → a.tmps.size = n → (∀ k, freeSlotA ops k = true → a.tmps.getD k undef = a0.tmps.getD k undef) →
      (∀ j d, writes ops j d = true → Spec L j w (a.tmps.getD d undef)) → G L w → Q .normal a w) :
    ∀ (fuel : Nat) (listed : Array Bool) (a : Act) (w : World), LocmInv ops Spec G a0 listed a w → unlisted listed ops.size = fuel → wpAny P .any ops Q fuel listed a w := by
  have fin' : ∀ (listed : Array Bool) (a : Act) (w : World), LocmInv ops Spec G a0 listed a w → (∀ k, k < ops.size → listed.getD k true = true) → Q .normal a w := fun listed a w h hl =>
    have hg : ∀ k, k < ops.size → got listed k = true := fun k hk => by rw [got_true (by rw [h.size]; exact hk)]; exact hl k hk
    fin (got listed) a w hg h.defers (h.slots.trans hn) h.other (fun j d hd => h.done j d (hg j (by unfold writes at hd; split at hd; cases hd; exact (Array.getElem?_eq_some_iff.1 ‹_›).1)) hd) h.grew
  intro fuel
  induction fuel with
  | zero =>
    intro listed a w h h0
    have hl := unlisted_all h0
    refine ⟨?_, fin' listed a w h hl⟩
    unfold Region.ready
    rw [List.filter_eq_nil_iff]
    intro i hi
    rw [List.mem_range] at hi
    simp [hl i hi]
  | succ fuel ih =>
    intro listed a w h hf
    refine ⟨fun hr => fin' listed a w h (readym_all hB h.size hr), fun i hi => ?_⟩
    unfold Region.ready at hi
    rw [List.mem_filter, List.mem_range] at hi
    obtain ⟨hlt, hi⟩ := hi
    have ho := Array.getElem?_eq_getElem hlt
    generalize ops[i] = o at ho
    have L := locm_of hB i o ho
    rw [ho] at hi
    simp only [Option.map_some, Option.getD_some, Bool.and_eq_true, Bool.not_eq_true'] at hi
    obtain ⟨hun, haf⟩ := hi
    have hls : i < listed.size := by rw [h.size]; exact hlt
    have hwt : ∀ j, waits o j = true → got listed j = true := fun j hj => by
      unfold waits at hj
      obtain ⟨e, he, hb⟩ := Array.any_eq_true'.1 hj
      simp only [Bool.and_eq_true, beq_iff_eq] at hb
      obtain ⟨rfl, hb⟩ := hb
      have h1 := Array.all_eq_true'.1 haf e he
      rw [hb] at h1
      simp only [Bool.not_true, Bool.false_or] at h1
      unfold got
      exact h1
    have hni : got listed i = false := by rw [got_true hls]; exact hun
    unfold wpOp
    simp only [ho]
    rw [if_pos (by simp [Region.wanted, L.guard])]
    refine .inl (Oper.wp_mono ?_ (step i o (got listed) a w ho hni h.other hwt h.closed h.done h.grew))
    rintro a' w' ⟨v, rfl, hS, hO, hG⟩
    refine ih _ _ _ ⟨by simpa using h.size, ?_, ?_, ?_, ?_, ?_, by rw [got_set hls]; exact hG⟩ ?_
    · cases hd : o.dst <;> exact h.defers
    · cases hd : o.dst with
      | none => exact h.slots
      | some d => simpa [Act.put] using h.slots
    · intro k hk
      cases hd : o.dst with
      | none => exact h.other k hk
      | some d =>
        show (a.tmps.setIfInBounds d v).getD k undef = _
        rw [tmp_set _ _ _ _ (by rw [h.slots, hn]; exact (L.dst d hd).1), if_neg (fun e => freeA_no hk ho (by rw [hd, e]))]
        exact h.other k hk
    · intro j d' hl hd'
      rw [got_set hls] at hl ⊢
      cases hd : o.dst with
      | none =>
        have hj : j ≠ i := fun q => by
          subst q
          unfold writes at hd'
          rw [ho] at hd'
          simp [hd] at hd'
        have hl' : got listed j = true := by simpa [also, hj] using hl
        exact hO j d' hl' hd'
      | some d =>
        show Spec _ j w' ((a.tmps.setIfInBounds d v).getD d' undef)
        rw [tmp_set _ _ _ _ (by rw [h.slots, hn]; exact (L.dst d hd).1)]
        have hd2 := hd'
        unfold writes at hd2
        cases hq : ops[j]? with
        | none => rw [hq] at hd2; cases hd2
        | some p =>
          rw [hq] at hd2
          simp only [beq_iff_eq] at hd2
          by_cases e : d' = d
          · subst e
            rw [if_pos rfl]
            obtain rfl := (L.dst d' hd).2 j p hq hd2
            exact hS d' hd
          · rw [if_neg e]
            have hj : j ≠ i := fun q => by
              subst q
              rw [ho] at hq
              obtain rfl := Option.some.inj hq
              rw [hd] at hd2
              exact e (Option.some.inj hd2).symm
            have hl' : got listed j = true := by simpa [also, hj] using hl
            exact hO j d' hl' hd'
    · intro j k hl hw
      rw [got_set hls] at hl ⊢
      by_cases e : j = i
      · subst e
        have : waits o k = true := by unfold waitsAt at hw; rw [ho] at hw; exact hw
        unfold also
        rw [hwt k this, Bool.or_true]
      · have hl' : got listed j = true := by simpa [also, e] using hl
        unfold also
        rw [h.closed j k hl' hw, Bool.or_true]
    · have := unlisted_set hls hun ops.size hlt
      omega
/-- What one operation has to leave, beside what holds of the world. -/
def LocStepG (P : Program) (ops : Array Oper) (Spec : (Nat → Bool) → Nat → World → Value → Prop) (G : (Nat → Bool) → World → Prop) (a0 : Act) (Q : Exit → Act → World → Prop) (i : Nat) (o : Oper) : Prop :=
  ∀ (L : Nat → Bool) (a : Act) (w : World), L i = false → (∀ k, freeSlotA ops k = true → a.tmps[k]?.getD undef = a0.tmps[k]?.getD undef) →
    (∀ j, waits o j = true → L j = true) → (∀ j k, L j = true → waitsAt ops j k = true → L k = true) → (∀ j d, L j = true → writes ops j d = true → Spec L j w (a.tmps[d]?.getD undef)) → G L w →
    o.wp P a w (fun a' w' => ∃ v, a' = a.put o.dst v ∧ (∀ d, o.dst = some d → Spec (also L i) i w' v) ∧ (∀ j d, L j = true → writes ops j d = true → Spec (also L i) j w' (a.tmps[d]?.getD undef)) ∧ G (also L i) w') Q
/-- The region's law, operation by operation. -/
theorem wp_region_fillG {id n : Nat} {l : List Oper} {a0 : Act} {w : World} (hl : ops = l.toArray) (Spec : (Nat → Bool) → Nat → World → Value → Prop) (G : (Nat → Bool) → World → Prop) (hm : P.follows .mixedOrders = true) (hB : locmB n ops = true) (hn : a0.tmps.size = n)
    (start : ∀ L, (∀ k, L k = false) → G L w.drew)
    (step : AllFrom (LocStepG P ops Spec G a0 Q) 0 l)
    (fin : ∀ (L : Nat → Bool) (a : Act) (w' : World), (∀ k, k < ops.size → L k = true) → a.defers = a0.defers → a.tmps.size = n → (∀ k, freeSlotA ops k = true → a.tmps[k]?.getD undef = a0.tmps[k]?.getD undef) →
      (∀ j d, writes ops j d = true → Spec L j w' (a.tmps[d]?.getD undef)) → G L w' → Q .normal a w') :
    (Code.region id l.toArray true).wp P Q a0 w := by
  subst hl
  have hz : ∀ m, m ≤ l.toArray.size → unlisted (Array.replicate l.toArray.size false) m = m := fun m => by
    induction m with
    | zero => intro _; rfl
    | succ m ih => intro h; rw [unlisted, ih (by omega)]; simp at h; simp [show m < l.length by omega]
  have hg : ∀ k, got (Array.replicate l.toArray.size false) k = false := fun k => by unfold got; by_cases h : k < l.length <;> simp [h]
  refine wp_region_any hm (locm_any hB Spec G a0 hn (fun i o L a w' ho h1 h2 h3 h4 h5 h6 => ?_) (fun L a w' h1 h2 h3 h4 h5 h6 => fin L a w' h1 h2 h3 (fun k hk => ?_) (fun j d hw => ?_) h6) _ _ _ _ ⟨by simp, rfl, rfl, fun _ _ => rfl, fun j d hj _ => ?_, fun j k hj _ => ?_, start _ hg⟩ (hz _ (Nat.le_refl _)))
  · have := all_from l 0 i o step (by simpa using ho)
    rw [Nat.zero_add] at this
    unfold LocStepG at this
    simp only [← Array.getD_eq_getD_getElem?] at this
    exact this L a w' h1 h2 h3 h4 h5 h6
  · rw [← Array.getD_eq_getD_getElem?, ← Array.getD_eq_getD_getElem?]; exact h4 k hk
  · rw [← Array.getD_eq_getD_getElem?]; exact h5 j d hw
  · rw [hg] at hj; cases hj
  · rw [hg] at hj; cases hj
/-- Where nothing that was there turns. -/
def LocStep (P : Program) (ops : Array Oper) (Spec : (Nat → Bool) → Nat → World → Value → Prop) (W : World) (a0 : Act) (Q : Exit → Act → World → Prop) (i : Nat) (o : Oper) : Prop := LocStepG P ops Spec (fun _ w' => Grew W w') a0 Q i o
theorem wp_region_fill {id n : Nat} {l : List Oper} {a0 : Act} {w : World} (hl : ops = l.toArray) (Spec : (Nat → Bool) → Nat → World → Value → Prop) (hm : P.follows .mixedOrders = true) (hB : locmB n ops = true) (hn : a0.tmps.size = n)
    (step : AllFrom (LocStep P ops Spec w a0 Q) 0 l)
    (fin : ∀ (L : Nat → Bool) (a : Act) (w' : World), (∀ k, k < ops.size → L k = true) → a.defers = a0.defers → a.tmps.size = n → (∀ k, freeSlotA ops k = true → a.tmps[k]?.getD undef = a0.tmps[k]?.getD undef) →
      (∀ j d, writes ops j d = true → Spec L j w' (a.tmps[d]?.getD undef)) → Grew w w' → Q .normal a w') :
    (Code.region id l.toArray true).wp P Q a0 w :=
  wp_region_fillG hl Spec (fun _ w' => Grew w w') hm hB hn (fun _ _ => (Grew.refl w).drew) step fin
end

/-- What an operation leaves: a value; a row of cells; a number beside a row of cells; the map. -/
abbrev KShape : Type := Value ⊕ List Value ⊕ (Nat × List Value) ⊕ Unit
/-- One kind: the place of its insert among the operations, class, id, how long, the cells of its fields. -/
structure KRow where
  at_ : Nat
  a : Nat
  b : Nat
  len : Nat
  cs : List Value
/-- An entry of the map: a kind's. -/
def KEntry (E : TypeId) (w : World) (k : KRow) (e : MapEntry) : Prop :=
  e.key = .agg #[.int .u8 (k.a : Nat), .int .u8 (k.b : Nat)] ∧ ∃ b n, e.val = .agg #[.int .i64 (k.len : Nat), .slice (some ⟨b, 0, none⟩) n n] ∧ n = k.cs.length / 3 ∧ w.heap[b]? = some (.cells k.cs.toArray E)
def KMap (E : TypeId) (W : World) (K : List KRow) (L : Nat → Bool) (w : World) (m : Nat) : Prop :=
  W.heap.size ≤ m ∧ ∃ es clk, w.heap[m]? = some (.map es clk) ∧ (∀ e ∈ es.toList, ∃ k ∈ K, L k.at_ = true ∧ KEntry E w k e) ∧ (∀ k ∈ K, L k.at_ = true → ∃ e ∈ es.toList, KEntry E w k e)
def KLeft (E : TypeId) (W : World) (K : List KRow) (L : Nat → Bool) (s : KShape) (w : World) (v : Value) : Prop :=
  match s with
  | .inl x => v = x
  | .inr (.inl cs) => ∃ b n, v = .slice (some ⟨b, 0, none⟩) n n ∧ n = cs.length / 3 ∧ w.heap[b]? = some (.cells cs.toArray E)
  | .inr (.inr (.inl p)) => ∃ b n, v = .agg #[.int .i64 (p.1 : Nat), .slice (some ⟨b, 0, none⟩) n n] ∧ n = p.2.length / 3 ∧ w.heap[b]? = some (.cells p.2.toArray E)
  | .inr (.inr (.inr _)) => ∃ m, v = .map (some m) ∧ KMap E W K L w m
/-- Blocks that are no maps stay. -/
def KKept (w w' : World) : Prop := ∀ (b : Nat) (cs : Array Value) (E : TypeId) (fr : Nat × Nat), w.heap[b]? = some (Obj.cells cs E fr) → w'.heap[b]? = some (Obj.cells cs E fr)
theorem KKept.of_grew {w w' : World} (g : Grew w w') : KKept w w' := fun b _ _ _ h => (Below.block g b (Array.getElem?_eq_some_iff.1 h).1).trans h
theorem KEntry.kept {E : TypeId} {w w' : World} {k : KRow} {e : MapEntry} (h : KEntry E w k e) (g : KKept w w') : KEntry E w' k e := by
  obtain ⟨h1, b, n, h2, h3, h4⟩ := h
  exact ⟨h1, b, n, h2, h3, g _ _ _ _ h4⟩
theorem also_ne {L : Nat → Bool} {i k : Nat} (h : k ≠ i) : also L i k = L k := by unfold also; simp [h]
theorem KMap.also {E : TypeId} {W : World} {K : List KRow} {L : Nat → Bool} {w w' : World} {m i : Nat} (h : KMap E W K L w m) (g : Grew w w') (hi : ∀ k ∈ K, k.at_ ≠ i) : KMap E W K (also L i) w' m := by
  obtain ⟨h0, es, clk, h1, h2, h3⟩ := h
  refine ⟨h0, es, clk, (Below.block g m (Array.getElem?_eq_some_iff.1 h1).1).trans h1, fun e he => ?_, fun k hk hl => ?_⟩
  · obtain ⟨k, hk, hl, he⟩ := h2 e he
    exact ⟨k, hk, by rw [also_ne (hi k hk)]; exact hl, he.kept (.of_grew g)⟩
  · rw [also_ne (hi k hk)] at hl
    obtain ⟨e, he, hx⟩ := h3 k hk hl
    exact ⟨e, he, hx.kept (.of_grew g)⟩
theorem KLeft.also {E : TypeId} {W : World} {K : List KRow} {L : Nat → Bool} {s : KShape} {w w' : World} {v : Value} {i : Nat} (h : KLeft E W K L s w v) (g : Grew w w') (hi : ∀ k ∈ K, k.at_ ≠ i) : KLeft E W K (also L i) s w' v := by
  rcases s with x | cs | p | u
  · exact h
  · obtain ⟨b, n, h1, h2, h3⟩ := h
    exact ⟨b, n, h1, h2, KKept.of_grew g _ _ _ _ h3⟩
  · obtain ⟨b, n, h1, h2, h3⟩ := h
    exact ⟨b, n, h1, h2, KKept.of_grew g _ _ _ _ h3⟩
  · obtain ⟨m, h1, h2⟩ := h
    exact ⟨m, h1, h2.also g hi⟩

section
variable {P : Program} {Q : Exit → Act → World → Prop} {o : Oper} {a : Act} {w w1 W : World} {E : TypeId} {K : List KRow} {L : Nat → Bool} {ops : Array Oper} {sh : Nat → KShape} {i : Nat}
theorem km_of (hd : ∀ j d, L j = true → writes ops j d = true → KLeft E W K L (sh j) w (a.tmps[d]?.getD undef)) (g : Grew W w) (hi : K.all (fun k => k.at_ != i) = true)
    (h : o.wp P a w (fun a' w'' => ∃ v, a' = a.put o.dst v ∧ KLeft E W K (also L i) (sh i) w'' v ∧ Grew w w'') Q) :
    o.wp P a w (fun a' w' => ∃ v, a' = a.put o.dst v ∧ (∀ d, o.dst = some d → KLeft E W K (also L i) (sh i) w' v) ∧ (∀ j d, L j = true → writes ops j d = true → KLeft E W K (also L i) (sh j) w' (a.tmps[d]?.getD undef)) ∧ Grew W w') Q :=
  Oper.wp_mono (fun a' w' ⟨v, h1, h2, h3⟩ => ⟨v, h1, fun _ _ => h2, fun j d hl hw => (hd j d hl hw).also h3 (fun k hk => by have := List.all_eq_true.1 hi k hk; simpa using this), g.trans h3⟩) h
end
end Go.Proofs.YtcdmbnbanopioaaGreatDoor

namespace Go.Proofs.YtcdmbnbanopioaaGreatDoor
open Go.RowKit
set_option linter.unusedVariables false

def regOps (n : Nat) : Code → Array Oper
  | .region k ops _ => if k = n then ops else #[]
  | .seq a b => regOps n a ++ regOps n b
  | .block _ c => regOps n c
  | .loop c => regOps n c
  | .scope c => regOps n c
  | .cond _ a b => regOps n a ++ regOps n b
  | _ => #[]
def regCode (n : Nat) : Code → Option Code
  | .region k ops d => if k = n then some (.region k ops d) else none
  | .seq a b => match regCode n a with
    | some c => some c
    | none => regCode n b
  | .block _ c => regCode n c
  | .loop c => regCode n c
  | .scope c => regCode n c
  | .cond _ a b => match regCode n a with
    | some c => some c
    | none => regCode n b
  | _ => none
theorem wp_thenS {P : Program} {c : Code} {K : Act → World → Prop} {Q : Exit → Act → World → Prop} {a : Act} {w : World} (h : c.wp P (Exit.then K fun _ _ _ => False) a w) : c.wp P (Exit.then K Q) a w :=
  wp_mono h (fun e a' w' q => by cases e <;> first | exact q | exact q.elim)
theorem wp_pushZ {P : Program} (w : World) {o : Oper} {a : Act} {K : Act → World → Prop} {Q : Exit → Act → World → Prop} (s x : Operand) (t : TypeId)
    (ho : o.op = .call { callee := .builtin .append, args := #[s, x], argTypes := #[t, t] })
    (base : Nat) (E : TypeId) (k : IntKind) (bytes : Nat) (ht : P.underlying t = some (.slice E)) (hi : (P.info? E).map (fun i => (i.zero, i.size, i.bytes)) = some (some (.int k 0), 1, bytes))
    (v : Value) (zs : List Int) (hs : a.eval s = v) (hown : OwnZ base E k w v zs)
    (ad : Addr) (n : Int) (hx : a.eval x = .slice (some ad) 1 1) (hc : w.cell? ad = some (.int k n))
    (hlen : (zs.length + 1) * bytes ≤ 140737488355328) (hb : 0 < bytes) (hbase : base ≤ w.heap.size)
    (h : ∀ v' w', OwnZ base E k w' v' (zs ++ [n]) → w.grownBy w' v.ownBlock → K (a.put o.dst v') w') : o.wp P a w K Q := by
  obtain ⟨i, hi0, hz0, hz1, hz2⟩ := info_parts hi
  refine wp_append_own w s x t ho base E i (.int k 0) 1 bytes ht hi0 hz0 hz1 hz2 rfl (by decide) v zs.length (cellsZ k zs) hs hown ad 1 1 [.int k n] hx rfl ?_ ?_ ?_ hlen hbase ?_
  · intro j u hj
    match j, hj with
    | 0, hj => simp at hj; subst hj; simpa [Addr.add] using hc
  · intro u hu; simp at hu; subst hu; rfl
  · have := Nat.le_mul_of_pos_right (zs.length + 1) hb
    unfold maxLen; omega
  · intro v' w' h1 h2 _
    refine h v' w' ?_ h2
    unfold OwnZ cellsZ
    simpa [cellsZ] using h1
end Go.Proofs.YtcdmbnbanopioaaGreatDoor

namespace Go.Proofs.YtcdmbnbanopioaaGreatDoor
open Go.RowKit
set_option linter.unusedVariables false

theorem arr_getS {α : Type} (t : Array α) (d : α) {n : Nat} (h : t.size = n) : t = ((List.range n).map fun k => t[k]?.getD d).toArray := by
  refine Array.ext (by simpa using h) fun i h1 h2 => ?_
  simp [h1]
theorem wp_norm {P : Program} {c : Code} {Q : Exit → Act → World → Prop} {a : Act} {w : World} (h : c.wp P (Exit.then (fun a w => Q .normal a w) fun _ _ _ => False) a w) : c.wp P Q a w :=
  wp_mono h (fun e a' w' q => by cases e <;> first | exact q | exact q.elim)
theorem srf_field (c k : Nat) (h : 2 * k + 1 < (srfLay c).2.length) : ∃ (p m : Nat) (neg : Bool), zi (srfLay c).2 (2 * k) = (p : Nat) ∧ zi (srfLay c).2 (2 * k + 1) = (if neg then -(m : Int) else (m : Int)) ∧ (0 < m ∧ m ≤ 4) ∧ 1 ≤ p ∧ p + m ≤ (srfLay c).1 := by
  have hok := srf_layOk c
  obtain ⟨h1, h2⟩ := hok.size k h
  obtain ⟨h3, h4⟩ := hok.in_ k h
  by_cases hn : zi (srfLay c).2 (2 * k + 1) < 0
  · exact ⟨(zi (srfLay c).2 (2 * k)).toNat, (zi (srfLay c).2 (2 * k + 1)).natAbs, true, by omega, by simp only [if_true]; omega, by omega, by omega, by omega⟩
  · exact ⟨(zi (srfLay c).2 (2 * k)).toNat, (zi (srfLay c).2 (2 * k + 1)).natAbs, false, by omega, by simp only [Bool.false_eq_true, if_false]; omega, by omega, by omega, by omega⟩
/-- What reading a payload tells. -/
def DecS (r : Nat × List Int × Nat) (w : World) (e : Ending) (w' : World) : Prop :=
  ∃ v, e = .returned (.tuple #[.agg #[.int .u8 (r.1 : Nat), v], .int .i64 (r.2.2 : Nat)]) ∧ RowZ .i64 w' v r.2.1 ∧ (0 < r.2.1.length → ∀ x, v.ownBlock = some x → w.heap.size ≤ x) ∧ Grew w w'
theorem decS_no {er : Nat} {w w' : World} (g : Grew w w') : DecS (0, [], er) w (.returned (.tuple #[.agg #[.int .u8 0, .slice none 0 0], .int .i64 (er : Nat)])) w' :=
  ⟨_, rfl, RowZ.nil _ _, (fun q => absurd q (by simp)), g⟩
-- [DEC
end Go.Proofs.YtcdmbnbanopioaaGreatDoor

namespace Go.Proofs.YtcdmbnbanopioaaGreatDoor
open Go.RowKit
set_option linter.unusedVariables false

/- What a frame acknowledges: plain, and the document's answer. -/
/-- What it is for (1 UBX, 2 SiRF, 0 nothing), whether it is good, class, ID. -/
def heardOf (k : Nat) (S : List Nat) : Nat × Bool × Nat × Nat :=
  if k = 2 ∧ S.length = 4 ∧ wd S 0 = 5 ∧ wd S 1 ≤ 1 then (1, decide (wd S 1 = 1), wd S 2, wd S 3)
  else if k = 3 ∧ S.length = 2 ∧ (wd S 0 = 11 ∨ wd S 0 = 12) then (2, decide (wd S 0 = 11), 0, wd S 1)
  else (0, false, 0, 0)
theorem wd_drop (S : List Nat) (k i : Nat) : wd (S.drop k) i = wd S (k + i) := by
  unfold wd
  rw [List.getD_eq_getElem?_getD, List.getD_eq_getElem?_getD, List.getElem?_drop]
theorem numLE_one (T : List Nat) (p : Nat) : numLE T p 1 = wd T p := by
  show 0 + wd T (p + 0) * 256 ^ 0 = _
  simp
theorem ubx_ack (S : List Nat) (hl : 2 ≤ S.length) (hB : Bytes S) (h5 : wd S 0 = 5) :
    (S.length = 4 ∧ wd S 1 ≤ 1 → ubxDec (wd S 0 * 256 + wd S 1) (S.drop 2) = ([(wd S 2 : Int), (wd S 3 : Int)], 0)) ∧
    (¬ (S.length = 4 ∧ wd S 1 ≤ 1) → (ubxDec (wd S 0 * 256 + wd S 1) (S.drop 2)).2 ≠ 0) := by
  have h1 := hB 1
  by_cases hs : wd S 1 ≤ 1
  · have hlay : ubxLay (wd S 0 * 256 + wd S 1) = (2, [0, 1, 1, 1]) := by
      rw [h5]
      rcases (show wd S 1 = 0 ∨ wd S 1 = 1 by omega) with e | e <;> rw [e] <;> rfl
    constructor
    · rintro ⟨h4, _⟩
      unfold ubxDec
      rw [hlay]
      simp only [List.length_drop, h4]
      rw [if_neg (by decide), if_neg (by decide)]
      have e2 := wd_drop S 2 0
      have e3 := wd_drop S 2 1
      simp only [Nat.add_zero] at e2
      show (valsTo (S.drop 2) [0, 1, 1, 1] 2, 0) = _
      simp only [valsTo, zi, getZ]
      simp [numLE_one, e2, e3]
    · intro h
      unfold ubxDec
      rw [hlay, if_neg (by decide), if_pos (by simp only [List.length_drop]; omega)]
      decide
  · have hno : ubxLay (wd S 0 * 256 + wd S 1) = (0, []) := ubx_no (by unfold isUbx; omega)
    refine ⟨fun h => absurd h.2 hs, fun _ => ?_⟩
    unfold ubxDec
    rw [hno, if_pos rfl]
    decide
theorem srf_ack (S : List Nat) (hB : Bytes S) :
    (S.length = 2 ∧ (wd S 0 = 11 ∨ wd S 0 = 12) → srfDec S = (wd S 0, [(wd S 1 : Int)], 0)) ∧
    (¬ (S.length = 2 ∧ (wd S 0 = 11 ∨ wd S 0 = 12)) → ¬ ((srfDec S).2.2 = 0 ∧ ((srfDec S).1 = 11 ∨ (srfDec S).1 = 12))) := by
  by_cases hs : wd S 0 = 11 ∨ wd S 0 = 12
  · have hlay : srfLay (wd S 0) = (2, [1, 1]) := by rcases hs with e | e <;> rw [e] <;> rfl
    constructor
    · rintro ⟨h2, _⟩
      unfold srfDec
      rw [hlay, if_neg (by omega), if_neg (by decide), if_neg (by simp only; omega)]
      show (wd S 0, bvalsTo S [1, 1] 1, 0) = _
      have e1 := turnTo_wd S 1 1 0 1 (by decide)
      simp only [bvalsTo, zi, getB, getZ]
      simp [numLE_one, e1]
    · rintro h ⟨e1, e2⟩
      unfold srfDec at e1
      rw [hlay] at e1
      split at e1
      · cases e1
      · rw [if_neg (by decide), if_pos (by simp only; omega)] at e1
        cases e1
  · refine ⟨fun h => absurd h.2 hs, ?_⟩
    rintro - ⟨e1, e2⟩
    unfold srfDec at e1 e2
    split at e1
    · cases e1
    · split at e1
      · cases e1
      · split at e1
        · cases e1
        · rename_i a b c
          rw [if_neg a, if_neg b, if_neg c] at e2
          exact hs e2
theorem three_put3 {w : World} {p : Nat} {x y z x' y' z' : Value} (h : ThreeAt w p x y z) : ThreeAt (((w.setCell ⟨p, 0, none⟩ x').setCell ⟨p, 1, none⟩ y').setCell ⟨p, 2, none⟩ z') p x' y' z' := by
  obtain ⟨l, c0, c1, c2, f0, f1, f2⟩ := h
  exact ⟨by simpa using l, by simp [go_sem, c0], by simp [go_sem, c1], by simp [go_sem, c2], by simp [go_sem, f0], by simp [go_sem, f1], by simp [go_sem, f2]⟩
/-- A row of numbers stands where a struct of bytes is written over. -/
theorem rowZ_put {w w' : World} {p : Nat} {v x : Value} {xs : List Value} {zs : List Int} {E : TypeId} (h : RowZ .i64 w v zs) (hb : w.heap[p]? = some (.cells (x :: xs).toArray E)) (hx : ∀ u ∈ (x :: xs), ∀ z : Int, u ≠ .int .i64 z) (F : Far (fun k => k = p) w w') : RowZ .i64 w' v zs := by
  obtain ⟨A, c, rfl, hc, hr⟩ := h
  refine ⟨A, c, rfl, hc, fun hn => ?_⟩
  obtain ⟨b, o, rfl, hlt, hcell⟩ := hr hn
  have hne : ¬ b = p := fun e => by
    subst e
    have h0 := hcell 0 hn
    rw [cell_of_row w b _ _ _ _ hb] at h0
    have hm := List.mem_of_getElem? (by simpa using h0)
    exact hx _ hm _ rfl
  exact ⟨b, o, rfl, Nat.lt_of_lt_of_le hlt F.size, fun i hi => (F.cell (p := ⟨b, o + i, none⟩) hlt hne).trans (hcell i hi)⟩
/- A region that calls Decode of UBX and keeps what it tells in a variable, whatever comes up first. -/
/-- What an operation leaves: a value (inl); what is told (0), the message (1), the variable (2). -/
def UCallS (a1 b1 : Int) (er : Nat) (zs : List Int) (W : World) (st : Nat) (s : Value ⊕ Nat) (L : Nat → Bool) (w : World) (v : Value) : Prop :=
  match s with
  | .inl x => v = x
  | .inr 0 => ∃ zv, v = .tuple #[.agg #[.int .u8 a1, .int .u8 b1, zv], .int .i64 (er : Nat)] ∧ RowZ .i64 w zv zs
  | .inr 1 => ∃ zv, v = .agg #[.int .u8 a1, .int .u8 b1, zv] ∧ RowZ .i64 w zv zs
  | .inr 2 => ∃ p, v = .pointer (some ⟨p, 0, none⟩) ∧ W.heap.size ≤ p ∧ p < w.heap.size ∧ (if L st = true then ∃ zv, ThreeAt w p (.int .u8 a1) (.int .u8 b1) zv ∧ RowZ .i64 w zv zs else w.heap[p]? = some (.cells #[.int .u8 0, .int .u8 0, .slice none 0 0] 37))
  | .inr _ => True
section
variable {a1 b1 : Int} {er : Nat} {zs : List Int}
theorem UCallS.also {W : World} {st : Nat} {s : Value ⊕ Nat} {L : Nat → Bool} {j : Nat} {w w' : World} {v : Value} (h : UCallS a1 b1 er zs W st s L w v) (g : Grew w w') (hj : j ≠ st) : UCallS a1 b1 er zs W st s (also L j) w' v := by
  unfold UCallS at h ⊢
  split at h
  · exact h
  · obtain ⟨zv, e, hl⟩ := h; exact ⟨zv, e, hl.grew g⟩
  · obtain ⟨zv, e, hl⟩ := h; exact ⟨zv, e, hl.grew g⟩
  · obtain ⟨p, e, h1, h2, h3⟩ := h
    refine ⟨p, e, h1, Nat.lt_of_lt_of_le h2 g.size, ?_⟩
    rw [also_ne (by omega)]
    split at h3
    · rename_i q
      rw [if_pos q]
      obtain ⟨zv, k1, k2⟩ := h3
      exact ⟨zv, k1.grew g, k2.grew g⟩
    · rename_i q
      rw [if_neg q]
      exact (Below.block g p h2).trans h3
  · trivial
theorem us_of {P : Program} {Q : Exit → Act → World → Prop} {o : Oper} {a : Act} {w W : World} {L : Nat → Bool} {ops : Array Oper} {i st : Nat} {sh : List (Value ⊕ Nat)}
    (hd : ∀ j d, L j = true → writes ops j d = true → UCallS a1 b1 er zs W st (sh.getD j (.inr 4)) L w (a.tmps[d]?.getD undef)) (g : Grew W w) (hi : i ≠ st)
    (h : o.wp P a w (fun a' w'' => ∃ v, a' = a.put o.dst v ∧ UCallS a1 b1 er zs W st (sh.getD i (.inr 4)) (also L i) w'' v ∧ Grew w w'') Q) :
    o.wp P a w (fun a' w' => ∃ v, a' = a.put o.dst v ∧ (∀ d, o.dst = some d → UCallS a1 b1 er zs W st (sh.getD i (.inr 4)) (also L i) w' v) ∧ (∀ j d, L j = true → writes ops j d = true → UCallS a1 b1 er zs W st (sh.getD j (.inr 4)) (also L i) w' (a.tmps[d]?.getD undef)) ∧ Grew W w') Q :=
  Oper.wp_mono (fun a' w' ⟨v, h1, h2, h3⟩ => ⟨v, h1, fun _ _ => h2, fun j d hl hw => (hd j d hl hw).also h3 hi, g.trans h3⟩) h
theorem us_store {Q : Exit → Act → World → Prop} {o : Oper} {a : Act} {w W : World} {L : Nat → Bool} {ops : Array Oper} {i t u : Nat} {sh : List (Value ⊕ Nat)}
    (hop : o.op = .store 37 (.tmp u) (.tmp t)) (hdst : o.dst = none)
    (hd : ∀ j d, L j = true → writes ops j d = true → UCallS a1 b1 er zs W i (sh.getD j (.inr 4)) L w (a.tmps[d]?.getD undef)) (g : Grew W w)
    (h4 : UCallS a1 b1 er zs W i (.inr 2) L w (a.tmps[u]?.getD undef)) (ht : UCallS a1 b1 er zs W i (.inr 1) L w (a.tmps[t]?.getD undef)) (hL : L i = false)
    (hone : ((List.range ops.size).all fun j => match sh.getD j (.inr 4) with | .inr 2 => writes ops j u | _ => true) = true) :
    o.wp Tryz.prog a w (fun a' w' => ∃ v, a' = a.put o.dst v ∧ (∀ d, o.dst = some d → UCallS a1 b1 er zs W i (sh.getD i (.inr 4)) (also L i) w' v) ∧ (∀ j d, L j = true → writes ops j d = true → UCallS a1 b1 er zs W i (sh.getD j (.inr 4)) (also L i) w' (a.tmps[d]?.getD undef)) ∧ Grew W w') Q := by
  obtain ⟨p, e4, hWp, hpl, h4⟩ := h4
  rw [hL, if_neg (by decide)] at h4
  have hblk := h4
  obtain ⟨zv, e17, hrow⟩ := ht
  have hT : ThreeAt w p (.int .u8 0) (.int .u8 0) (.slice none 0 0) := by
    refine ⟨hpl, ?_, ?_, ?_, ?_, ?_, ?_⟩
    · rw [cell_of_row w p 0 _ _ _ hblk]; rfl
    · rw [cell_of_row w p 1 _ _ _ hblk]; rfl
    · rw [cell_of_row w p 2 _ _ _ hblk]; rfl
    · simp [World.frozen?, hblk]
    · simp [World.frozen?, hblk]
    · simp [World.frozen?, hblk]
  obtain ⟨A, cap, ezv, _⟩ := id hrow
  have hF := (((Far.refl (fun x => x = p) w).setCell (p := ⟨p, 0, none⟩) rfl (.int .u8 a1)).setCell (p := ⟨p, 1, none⟩) rfl (.int .u8 b1)).setCell (p := ⟨p, 2, none⟩) rfl zv
  have hvar := three_put3 (x' := .int .u8 a1) (y' := .int .u8 b1) (z' := zv) hT
  have hg1 : Grew W (((w.setCell ⟨p, 0, none⟩ (.int .u8 a1)).setCell ⟨p, 1, none⟩ (.int .u8 b1)).setCell ⟨p, 2, none⟩ zv) := ((g.setCell hWp _).setCell hWp _).setCell hWp _
  have hex : (execOp a.eval o).run Tryz.prog w = .ok .skip (((w.setCell ⟨p, 0, none⟩ (.int .u8 a1)).setCell ⟨p, 1, none⟩ (.int .u8 b1)).setCell ⟨p, 2, none⟩ zv) := by
    obtain ⟨_, c0, c1, c2, f0, f1, f2⟩ := hT
    subst ezv
    simp [execOp, hop, go_sem, e4, e17, c0, c1, c2, f0, f1, f2]
  generalize ((w.setCell ⟨p, 0, none⟩ (.int .u8 a1)).setCell ⟨p, 1, none⟩ (.int .u8 b1)).setCell ⟨p, 2, none⟩ zv = w1 at *
  have hkept : ∀ zv', RowZ .i64 w zv' zs → RowZ .i64 w1 zv' zs := fun zv' hr => rowZ_put hr hblk (fun u hu z => by simp at hu; rcases hu with rfl | rfl | rfl <;> simp) hF
  unfold Oper.wp
  rw [hex]
  refine ⟨undef, by rw [hdst], fun d hd' => (by rw [hdst] at hd'; cases hd'), fun j d hl hwr => ?_, hg1⟩
  have h := hd j d hl hwr
  have h1 := fun q => List.all_eq_true.1 hone j (List.mem_range.2 q)
  have hjs : j < ops.size := by
    unfold writes at hwr
    split at hwr
    · cases hwr
    · exact (Array.getElem?_eq_some_iff.1 ‹_›).1
  replace h1 := h1 hjs
  cases hs : sh.getD j (.inr 4) with
  | inl x => rw [hs] at h; exact h
  | inr n =>
    rw [hs] at h h1
    unfold UCallS at h ⊢
    match n, h, h1 with
    | 0, h, _ => obtain ⟨zv', e, hl⟩ := h; exact ⟨zv', e, hkept _ hl⟩
    | 1, h, _ => obtain ⟨zv', e, hl⟩ := h; exact ⟨zv', e, hkept _ hl⟩
    | 2, h, h1 =>
      have : d = u := by
        unfold writes at hwr h1
        cases hq : ops[j]? with
        | none => rw [hq] at hwr; cases hwr
        | some o' =>
          rw [hq] at hwr h1
          simp only [beq_iff_eq] at hwr h1
          exact Option.some.inj (hwr.symm.trans h1)
      subst this
      refine ⟨p, e4, hWp, hvar.lt, ?_⟩
      rw [if_pos (by unfold Proofs.YtcdmbnbanopioaaGreatDoor.also; simp)]
      exact ⟨_, hvar, hkept _ hrow⟩
    | _ + 3, _, _ => trivial
end
/- The document's answer: what a frame acknowledges. -/
theorem heard_no {k : Nat} {S : List Nat} (h2 : ¬ (k = 2 ∧ S.length = 4 ∧ wd S 0 = 5 ∧ wd S 1 ≤ 1)) (h3 : ¬ (k = 3 ∧ S.length = 2 ∧ (wd S 0 = 11 ∨ wd S 0 = 12))) : heardOf k S = (0, false, 0, 0) := by
  unfold heardOf
  rw [if_neg h2, if_neg h3]
def HeardT (r : Nat × Bool × Nat × Nat) (w : World) (e : Ending) (w' : World) : Prop :=
  e = .returned (.tuple #[.int .u8 (r.1 : Nat), .bool r.2.1, .int .u8 (r.2.2.1 : Nat), .int .u8 (r.2.2.2 : Nat)]) ∧ Grew w w'
-- [HEARD
end Go.Proofs.YtcdmbnbanopioaaGreatDoor

namespace Go.Proofs.YtcdmbnbanopioaaGreatDoor
open Go.RowKit
set_option linter.unusedVariables false

end Go.Proofs.YtcdmbnbanopioaaGreatDoor

namespace Go.Proofs.YtcdmbnbanopioaaGreatDoor
open Go.RowKit
set_option linter.unusedVariables false

/- The laws of dialogues: what the program's calls tell; the page's example. The program's calls are handed in. -/
/-- What holds of a dialogue whatever came. -/
structure DlgOk (d : Dlg) : Prop where
  sound : Sound d.tries d.now d.rows
  came : d.came = false → Fresh d.rows
  kl : d.rows.length ≤ 16
  kn : -9223372036854775808 ≤ d.now ∧ d.now ≤ 9223372036854775807
  kt : 100000000 ≤ d.tmo ∧ d.tmo ≤ 10000000000
  kr : 1 ≤ d.tries ∧ d.tries ≤ 8
/-- Whether a dialogue may be made. -/
def mayDlg (cs : List Cmd) (tmo tries : Int) : Prop := (∀ c ∈ cs, mayCmd c) ∧ cs.length ≤ 16 ∧ 100000000 ≤ tmo ∧ tmo ≤ 10000000000 ∧ 1 ≤ tries ∧ tries ≤ 8
theorem DlgOk.new {cs : List Cmd} {tmo tries : Int} (h : mayDlg cs tmo tries) : DlgOk (dlgNew cs tmo tries.toNat) := by
  obtain ⟨_, h1, h2, h3, h4, h5⟩ := h
  refine ⟨.new (fresh_rows cs), fun _ => fresh_rows cs, by show (cs.map dlgRow).length ≤ 16; rw [List.length_map]; exact h1, ⟨by show -9223372036854775808 ≤ (0 : Int); decide, by show (0 : Int) ≤ 9223372036854775807; decide⟩, ⟨h2, h3⟩, ?_⟩
  show 1 ≤ tries.toNat ∧ tries.toNat ≤ 8
  omega
theorem tickL_len (now tmo : Int) (tries : Nat) (l : List DRow) : (tickL now tmo tries l).1.length = l.length := by
  have h := congrArg List.length (tick_cmds now tmo tries l)
  simpa using h
theorem hearL_len (wait : Nat) (good : Bool) (cls id : Nat) (l : List DRow) : (hearL wait good cls id l).1.length = l.length := by
  have h := congrArg List.length (hear_cmds wait good cls id l)
  simpa using h
theorem DlgOk.at_ {d : Dlg} (h : DlgOk d) (t : Int) : Sound d.tries (d.at t) d.rows := by
  cases q : d.came with
  | false => exact .new (h.came q)
  | true =>
    refine h.sound.later ?_
    unfold Dlg.at
    split
    · rename_i hc; rw [q] at hc; simp at hc; omega
    · exact Int.le_refl _
theorem DlgOk.tick {d : Dlg} (h : DlgOk d) (t : Int) (ht : -9223372036854775808 ≤ t ∧ t ≤ 9223372036854775807) : DlgOk (d.tick t).1 := by
  refine ⟨sound_tick (show 0 < d.tries by have := h.kr; omega) _ _ _ (h.at_ t), fun q => (by cases q), ?_, ?_, h.kt, h.kr⟩
  · show (tickL _ _ _ _).1.length ≤ 16
    rw [tickL_len]; exact h.kl
  · show -9223372036854775808 ≤ d.at t ∧ d.at t ≤ 9223372036854775807
    unfold Dlg.at
    split
    · exact ht
    · exact h.kn
theorem hear_fresh (wait : Nat) (good : Bool) (cls id : Nat) : ∀ l : List DRow, Fresh l → hearL wait good cls id l = (l, false)
  | [], _ => rfl
  | r :: rs, h => by
    have h0 := h r (by simp)
    rw [hearL, if_pos (by omega), if_neg (fun q => by omega)]
theorem DlgOk.hear {d : Dlg} (h : DlgOk d) (wait : Nat) (good : Bool) (cls id : Nat) : DlgOk (d.hear wait good cls id).1 := by
  refine ⟨sound_hear _ _ _ _ _ h.sound, fun q => ?_, ?_, h.kn, h.kt, h.kr⟩
  · show Fresh (hearL _ _ _ _ _).1
    rw [hear_fresh _ _ _ _ _ (h.came q)]
    exact h.came q
  · show (hearL _ _ _ _ _).1.length ≤ 16
    rw [hearL_len]; exact h.kl
/-- What the program's calls of layer 14 tell: R K w v F d: behind the pointer v stands the dialogue d, in blocks of F, which are written; what stands in blocks of K is read alone, and may be shared. -/
structure DlgCalls (R : (Nat → Prop) → World → Value → (Nat → Prop) → Dlg → Prop) : Prop where
  far : ∀ {K G : Nat → Prop} {w w' : World} {v : Value} {F : Nat → Prop} {d : Dlg}, R K w v F d → Far G w w' → (∀ b, F b ∨ K b → ¬ G b) → R K w' v F d
  lt : ∀ {K : Nat → Prop} {w : World} {v : Value} {F : Nat → Prop} {d : Dlg}, R K w v F d → ∀ b, F b ∨ K b → b < w.heap.size
  apart : ∀ {K : Nat → Prop} {w : World} {v : Value} {F : Nat → Prop} {d : Dlg}, R K w v F d → ∀ b, K b → ¬ F b
  ptr : ∀ {K : Nat → Prop} {w : World} {v : Value} {F : Nat → Prop} {d : Dlg}, R K w v F d → ∃ p, v = .pointer (some p)
  new : ∀ (X : Nat → Prop) (v : Value) (cs : List Cmd) (tmo tries : Int) (w : World), CmdsAt X w v cs → (∀ b, X b → b < w.heap.size) → cs.length ≤ 20 → (∀ c ∈ cs, c.wait < 256 ∧ c.cls < 256 ∧ c.id < 256 ∧ Bytes c.b ∧ c.b.length ≤ 1100) → (-9223372036854775808 ≤ tmo ∧ tmo ≤ 9223372036854775807) → (-9223372036854775808 ≤ tries ∧ tries ≤ 9223372036854775807) →
    Calls Tryz.prog 16 #[v, .int .i64 tmo, .int .i64 tries] w fun e w' => Grew w w' ∧ (mayDlg cs tmo tries → ∃ p F K, e = .returned (.tuple #[.pointer (some p), .int .i64 0]) ∧ R K w' (.pointer (some p)) F (dlgNew cs tmo tries.toNat) ∧ ∀ b, F b ∨ K b → w.heap.size ≤ b) ∧ (¬ mayDlg cs tmo tries → e = .returned (.tuple #[.pointer none, .int .i64 2]))
  tick : ∀ (K : Nat → Prop) (w : World) (v : Value) (F : Nat → Prop) (d : Dlg) (t : Int), R K w v F d → DlgOk d → (-9223372036854775808 ≤ t ∧ t ≤ 9223372036854775807) →
    Calls Tryz.prog 17 #[v, .int .i64 t] w fun e w' => ∃ F' fv, e = .returned (.tuple #[fv, .bool (d.tick t).2.isSome]) ∧ R K w' v F' (d.tick t).1 ∧ Far F w w' ∧ (∀ b, F' b → F b ∨ w.heap.size ≤ b) ∧ Own 0 5 .u8 w' fv ((d.tick t).2.getD []) ∧ ∀ b, fv.ownBlock = some b → w.heap.size ≤ b ∧ ¬ F' b
  frame : ∀ (K : Nat → Prop) (w : World) (v : Value) (F : Nat → Prop) (d : Dlg) (k : Nat) (u : Value) (S : List Nat), R K w v F d → DlgOk d → k < 256 → Row .u8 w u S → Bytes S → S.length ≤ 100000 →
    Calls Tryz.prog 18 #[v, .agg #[.int .u8 (k : Nat), u]] w fun e w' => ∃ F', e = .returned (.bool (d.hear (heardOf k S).1 (heardOf k S).2.1 (heardOf k S).2.2.1 (heardOf k S).2.2.2).2) ∧ R K w' v F' (d.hear (heardOf k S).1 (heardOf k S).2.1 (heardOf k S).2.2.1 (heardOf k S).2.2.2).1 ∧ Far F w w' ∧ ∀ b, F' b → F b ∨ w.heap.size ≤ b
  counts : ∀ (K : Nat → Prop) (w : World) (v : Value) (F : Nat → Prop) (d : Dlg), R K w v F d → DlgOk d →
    Calls Tryz.prog 19 #[v] w fun e w' => e = .returned (.tuple #[.int .i64 (doneOf d.rows : Nat), .int .i64 (lostOf d.rows : Nat), .int .i64 (leftOf d.rows : Nat)]) ∧ Grew w w'
  flying : ∀ (K : Nat → Prop) (w : World) (v : Value) (F : Nat → Prop) (d : Dlg), R K w v F d → DlgOk d →
    Calls Tryz.prog 20 #[v] w fun e w' => e = .returned (.bool (flyOf d.rows)) ∧ Grew w w'
  none_tick : ∀ (w : World) (t : Int), (-9223372036854775808 ≤ t ∧ t ≤ 9223372036854775807) → Calls Tryz.prog 17 #[.pointer none, .int .i64 t] w fun e w' => ∃ A c, e = .returned (.tuple #[.slice A 0 c, .bool false]) ∧ Grew w w'
  none_frame : ∀ (w : World), Calls Tryz.prog 18 #[.pointer none, .agg #[.int .u8 0, .slice none 0 0]] w fun e w' => e = .returned (.bool false) ∧ Grew w w'
  none_counts : ∀ (w : World), Calls Tryz.prog 19 #[.pointer none] w fun e w' => e = .returned (.tuple #[.int .i64 0, .int .i64 0, .int .i64 0]) ∧ Grew w w'
  none_flying : ∀ (w : World), Calls Tryz.prog 20 #[.pointer none] w fun e w' => e = .returned (.bool false) ∧ Grew w w'
theorem row_litD (w : World) (E : TypeId) (cs : Array Value) (ns : List Nat) (n : Nat) (hc : cs = (cellsOf .u8 ns).toArray) (hn : n = ns.length) (hm : ns.length ≤ maxLen) : Row .u8 (w.alloc (.cells cs E)) (.slice (some ⟨w.heap.size, 0, none⟩) n n) ns := by
  subst hc hn
  exact (Own.lit w .u8 E 0 (Nat.zero_le _) ns hm).row
theorem own_next {F F' : Nat → Prop} {m n : Nat} (h : ∀ b, F' b → F b ∨ n ≤ b) (hF : ∀ b, F b → m ≤ b) (hm : m ≤ n) : ∀ b, F' b → m ≤ b := fun b hb => by
  rcases h b hb with q | q
  · exact hF b q
  · omega
def kq : Cmd := ⟨[1], 1, 6, 1⟩
def kd : Dlg := dlgNew [kq, kq] 1000000000 (2 : Int).toNat
def kd1 : Dlg := (kd.tick 0).1
def kd2 : Dlg := (kd1.tick 1).1
def kd3 : Dlg := (kd2.tick 1000000000).1
def kd4 : Dlg := (kd3.hear (heardOf 2 [5, 1, 6, 1]).1 (heardOf 2 [5, 1, 6, 1]).2.1 (heardOf 2 [5, 1, 6, 1]).2.2.1 (heardOf 2 [5, 1, 6, 1]).2.2.2).1
def kd5 : Dlg := (kd4.tick 1000000001).1
theorem kmay : mayDlg [kq, kq] 1000000000 2 := ⟨fun c hc => by simp at hc; subst hc; exact ⟨by decide, by decide, by decide⟩, by decide, by decide, by decide, by decide, by decide⟩
theorem kr1 : (kd.tick 0).2.isSome = true := by kernel_rfl
theorem kr2 : (kd1.tick 1).2.isSome = false := by kernel_rfl
theorem kr3 : (kd2.tick 1000000000).2.isSome = true := by kernel_rfl
theorem kr4 : (kd3.hear (heardOf 2 [5, 1, 6, 1]).1 (heardOf 2 [5, 1, 6, 1]).2.1 (heardOf 2 [5, 1, 6, 1]).2.2.1 (heardOf 2 [5, 1, 6, 1]).2.2.2).2 = true := by kernel_rfl
theorem kr5 : (kd4.tick 1000000001).2.isSome = true := by kernel_rfl
theorem kr6 : doneOf kd5.rows = 1 ∧ lostOf kd5.rows = 0 ∧ leftOf kd5.rows = 1 ∧ flyOf kd5.rows = true := ⟨by kernel_rfl, by kernel_rfl, by kernel_rfl, by kernel_rfl⟩
-- [KNOWN
set_option maxRecDepth 100000 in
set_option maxHeartbeats 4000000 in
theorem law_known14 {R : (Nat → Prop) → World → Value → (Nat → Prop) → Dlg → Prop} (C : DlgCalls R) (w : World) : Calls Tryz.prog 7 #[] w fun e w' => e = .returned (.bool true) ∧ Grew w w' := by
  go_enter Tryz.func7, Tryz.ntmps7
  go_upto_region 2 with fail
  obtain ⟨V0, hV0⟩ : ∃ V, w.alloc (.cells #[.int .u8 1] 5) = V := ⟨_, rfl⟩
  have r0 : Row .u8 V0 (.slice (some ⟨w.heap.size, 0, none⟩) 1 1) [1] := by rw [← hV0]; exact row_litD w 5 _ _ _ rfl rfl (by decide)
  have g0 : Grew w V0 := by rw [← hV0]; exact (Grew.refl w).alloc _
  have l0 : V0.heap.size = w.heap.size + 1 := by rw [← hV0]; simp
  rw [hV0]
  clear hV0
  obtain ⟨V, hV⟩ : ∃ V, V0.alloc (.cells #[.slice (some ⟨w.heap.size, 0, none⟩) 1 1, .int .u8 1, .int .u8 6, .int .u8 1] 27) = V := ⟨_, rfl⟩
  have v0 : V.cell? ⟨V0.heap.size, 0, none⟩ = some (.slice (some ⟨w.heap.size, 0, none⟩) 1 1) := by rw [← hV]; simp [go_sem]
  have v1 : V.cell? ⟨V0.heap.size, 1, none⟩ = some (.int .u8 1) := by rw [← hV]; simp [go_sem]
  have v2 : V.cell? ⟨V0.heap.size, 2, none⟩ = some (.int .u8 6) := by rw [← hV]; simp [go_sem]
  have v3 : V.cell? ⟨V0.heap.size, 3, none⟩ = some (.int .u8 1) := by rw [← hV]; simp [go_sem]
  have lV : V0.heap.size < V.heap.size := by rw [← hV]; simp
  have gV : Grew V0 V := by rw [← hV]; exact (Grew.refl V0).alloc _
  rw [hV]
  clear hV
  have r1 := r0.grew gV
  have G1 := Lib.hid (g0.trans gV)
  rw [l0] at v0 v1 v2 v3 lV
  clear l0
  have gA := (Grew.refl V).alloc (.cells #[.slice (some ⟨w.heap.size, 0, none⟩) 1 1, .int .u8 1, .int .u8 6, .int .u8 1, .slice (some ⟨w.heap.size, 0, none⟩) 1 1, .int .u8 1, .int .u8 6, .int .u8 1] 27)
  have hcm : ∀ i : Nat, i < 2 → CmdIn (V.alloc (.cells #[.slice (some ⟨w.heap.size, 0, none⟩) 1 1, .int .u8 1, .int .u8 6, .int .u8 1, .slice (some ⟨w.heap.size, 0, none⟩) 1 1, .int .u8 1, .int .u8 6, .int .u8 1] 27)) V.heap.size (0 + i * 4) kq (.slice (some ⟨w.heap.size, 0, none⟩) 1 1) := fun i hi => by
    refine ⟨by simp, ?_, ?_, ?_, ?_, r1.grew gA, by decide, by decide, by decide⟩
    all_goals (rw [World.cell?_alloc_new]; match i, hi with | 0, _ => rfl | 1, _ => rfl)
  have hCM : CmdsAt (fun b => b = w.heap.size) (V.alloc (.cells #[.slice (some ⟨w.heap.size, 0, none⟩) 1 1, .int .u8 1, .int .u8 6, .int .u8 1, .slice (some ⟨w.heap.size, 0, none⟩) 1 1, .int .u8 1, .int .u8 6, .int .u8 1] 27)) (.slice (some ⟨V.heap.size, 0, none⟩) 2 2) [kq, kq] := by
    refine ⟨_, 2, rfl, Nat.le_refl _, fun _ => ⟨V.heap.size, 0, rfl, fun i q hi => ?_⟩⟩
    have h2 := (List.getElem?_eq_some_iff.1 hi).1
    have e : q = kq := by
      match i, h2, hi with
      | 0, _, hi => cases hi; rfl
      | 1, _, hi => cases hi; rfl
    subst e
    exact ⟨_, hcm i h2, fun _ b hb => by simp [Value.ownBlock] at hb; exact hb.symm⟩
  have HN := C.new _ _ [kq, kq] 1000000000 2 _ hCM (fun b hb => by have := gA.size; omega) (by decide) (fun c hc => by simp at hc; subst hc; exact ⟨by decide, by decide, by decide, Bytes.of_mem (by simp [kq]), by decide⟩) (by decide) (by decide)
  replace HN := Lib.hid HN
  have GA := Lib.hid gA
  clear hCM hcm gA r0 r1
  go_upto_region 3 with (go_at_call 16; refine HN.out.mono ?_; rintro e w1 ⟨g1, hy, _⟩; obtain ⟨p, F, K, rfl, hR, hFK⟩ := hy kmay)
  have G2 := Lib.hid ((G1.out.trans GA.out).trans g1)
  have hok := DlgOk.new kmay
  have H1 := Lib.hid (C.tick _ _ _ F kd 0 hR hok (by decide))
  rw [kr1] at H1
  have hF1 : ∀ b, F b → w.heap.size ≤ b := fun b hb => by have := hFK b (.inl hb); have := (G1.out.trans GA.out).size; omega
  go_upto_region 6 with (go_at_call 17; refine H1.out.mono ?_; rintro e w2 ⟨F2, fv, rfl, hR2, hf2, hs2, ho2, hb2⟩; obtain ⟨fA, fc, rfl, _⟩ := ho2.row.form)
  have G3 := Lib.hid (hf2.grew G2.out hF1)
  have hF2 : ∀ b, F2 b → w.heap.size ≤ b := own_next hs2 hF1 G2.out.size
  have hok2 : DlgOk kd1 := hok.tick 0 (by decide)
  have H2 := Lib.hid (C.tick _ _ _ F2 kd1 1 hR2 hok2 (by decide))
  rw [kr2] at H2
  clear H1 hf2 hs2 ho2 hb2
  go_upto_region 7 with (go_at_call 17; refine H2.out.mono ?_; rintro e w3 ⟨F3, fv3, rfl, hR3, hf3, hs3, ho3, hb3⟩; obtain ⟨fA3, fc3, rfl, _⟩ := ho3.row.form)
  have G4 := Lib.hid (hf3.grew G3.out hF2)
  have hF3 : ∀ b, F3 b → w.heap.size ≤ b := own_next hs3 hF2 G3.out.size
  have hok3 : DlgOk kd2 := hok2.tick 1 (by decide)
  have H3 := Lib.hid (C.tick _ _ _ F3 kd2 1000000000 hR3 hok3 (by decide))
  rw [kr3] at H3
  clear H2 hf3 hs3 ho3 hb3
  go_upto_region 8 with (go_at_call 17; refine H3.out.mono ?_; rintro e w4 ⟨F4, fv4, rfl, hR4, hf4, hs4, ho4, hb4⟩; obtain ⟨fA4, fc4, rfl, _⟩ := ho4.row.form)
  have G5 := Lib.hid (hf4.grew G4.out hF3)
  have hF4 : ∀ b, F4 b → w.heap.size ≤ b := own_next hs4 hF3 G4.out.size
  have hok4 : DlgOk kd3 := hok3.tick 1000000000 (by decide)
  have gB := (Grew.refl w4).alloc (.cells #[.int .u8 5, .int .u8 1, .int .u8 6, .int .u8 1] 5)
  have hRb := C.far hR4 (Far.of_grew (F := fun _ => False) gB) (fun _ _ q => q)
  have H4 := Lib.hid (C.frame _ _ _ F4 kd3 2 _ [5, 1, 6, 1] hRb hok4 (by decide) (row_litD w4 5 #[.int .u8 5, .int .u8 1, .int .u8 6, .int .u8 1] [5, 1, 6, 1] 4 rfl rfl (by decide)) (Bytes.of_mem (by simp)) (by decide))
  rw [kr4] at H4
  have G6 := Lib.hid (G5.out.trans gB)
  clear H3 hf4 hs4 ho4 hb4 gB
  go_upto_region 9 with (go_at_call 18; refine H4.out.mono ?_; rintro e w5 ⟨F5, rfl, hR5, hf5, hs5⟩)
  have G7 := Lib.hid (hf5.grew G6.out hF4)
  have hF5 : ∀ b, F5 b → w.heap.size ≤ b := own_next hs5 hF4 G6.out.size
  have hok5 : DlgOk kd4 := hok4.hear _ _ _ _
  have H5 := Lib.hid (C.tick _ _ _ F5 kd4 1000000001 hR5 hok5 (by decide))
  rw [kr5] at H5
  clear H4 hf5 hs5
  go_upto_region 10 with (go_at_call 17; refine H5.out.mono ?_; rintro e w6 ⟨F6, fv6, rfl, hR6, hf6, hs6, ho6, hb6⟩; obtain ⟨fA6, fc6, rfl, _⟩ := ho6.row.form)
  have G8 := Lib.hid (hf6.grew G7.out hF5)
  have hok6 : DlgOk kd5 := hok5.tick 1000000001 (by decide)
  have H6 := C.counts _ _ _ F6 kd5 hR6 hok6
  rw [kr6.1, kr6.2.1, kr6.2.2.1] at H6
  replace H6 := Lib.hid H6
  have H7 := Lib.hid (fun w' (G : Grew w6 w') => C.flying _ _ _ F6 kd5 (C.far hR6 (Far.of_grew (F := fun _ => False) G) (fun _ _ q => q)) hok6)
  clear H5 hf6 hs6 ho6 hb6
  go_wp2_with (first | (go_at_call 19; refine H6.out.mono ?_; rintro e w7 ⟨rfl, g7⟩) | (go_at_call 20; refine (H7.out _ g7).mono ?_; rintro e w8 ⟨rfl, g8⟩))
  go_ret
  exact ⟨by rw [kr6.2.2.2]; rfl, (G8.out.trans g7).trans g8⟩
-- KNOWN]
/- The laws of dialogues: which lists are looked at, which may be. -/
/-- What comes: its kind, a counter, a frame. -/
structure Opr where
  kind : Int
  at_ : Int
  fk : Nat
  fs : List Nat
structure OpIn (w : World) (b o : Nat) (q : Opr) (v : Value) : Prop where
  lt : b < w.heap.size
  c0 : w.cell? ⟨b, o, none⟩ = some (.int .i64 q.kind)
  c1 : w.cell? ⟨b, o + 1, none⟩ = some (.int .i64 q.at_)
  c2 : w.cell? ⟨b, o + 2, none⟩ = some (.int .u8 (q.fk : Nat))
  c3 : w.cell? ⟨b, o + 3, none⟩ = some v
  row : Row .u8 w v q.fs
theorem OpIn.grew {w w' : World} {b o : Nat} {q : Opr} {v : Value} (h : OpIn w b o q v) (g : Grew w w') : OpIn w' b o q v :=
  ⟨Nat.lt_of_lt_of_le h.lt g.size, (g.cell (p := ⟨b, o, none⟩) h.lt).trans h.c0, (g.cell (p := ⟨b, o + 1, none⟩) h.lt).trans h.c1, (g.cell (p := ⟨b, o + 2, none⟩) h.lt).trans h.c2, (g.cell (p := ⟨b, o + 3, none⟩) h.lt).trans h.c3, h.row.grew g⟩
def OpsAt (w : World) (v : Value) (os : List Opr) : Prop :=
  ∃ A c, v = .slice A os.length c ∧ os.length ≤ c ∧ (0 < os.length → ∃ b o, A = some ⟨b, o, none⟩ ∧ ∀ i q, os[i]? = some q → ∃ fv, OpIn w b (o + i * 4) q fv)
theorem OpsAt.grew {w w' : World} {v : Value} {os : List Opr} (h : OpsAt w v os) (g : Grew w w') : OpsAt w' v os := by
  obtain ⟨A, c, rfl, hc, hr⟩ := h
  refine ⟨A, c, rfl, hc, fun hn => ?_⟩
  obtain ⟨b, o, rfl, hf⟩ := hr hn
  exact ⟨b, o, rfl, fun i q hi => by obtain ⟨fv, h⟩ := hf i q hi; exact ⟨fv, h.grew g⟩⟩
theorem OpsAt.at_ {w : World} {v : Value} {os : List Opr} (h : OpsAt w v os) (i : Nat) (hi : i < os.length) : ∃ b o c fv, v = .slice (some ⟨b, o, none⟩) os.length c ∧ os.length ≤ c ∧ OpIn w b (o + i * 4) os[i] fv := by
  obtain ⟨A, c, rfl, hc, hr⟩ := h
  obtain ⟨b, o, rfl, hf⟩ := hr (by omega)
  obtain ⟨fv, h1⟩ := hf i _ (List.getElem?_eq_getElem hi)
  exact ⟨b, o, c, fv, rfl, hc, h1⟩
theorem all_upto {α : Type} {l : List α} {p : α → Prop} (h : ∀ j x, l[j]? = some x → j < l.length → p x) : ∀ x ∈ l, p x := fun x hx => by
  obtain ⟨j, hj⟩ := List.mem_iff_getElem?.1 hx
  exact h j x hj (List.getElem?_eq_some_iff.1 hj).1
def GreatT (cs : List Cmd) (os : List Opr) (w : World) (e : Ending) (w' : World) : Prop :=
  ∃ r : Bool, e = .returned (.bool r) ∧ w = w' ∧ (r = false → (∀ c ∈ cs, c.b.length ≤ 1100) ∧ cs.length ≤ 20 ∧ (∀ q ∈ os, q.fs.length ≤ 1100) ∧ os.length ≤ 60)
def MayT (cs : List Cmd) (tmo tries : Int) (w : World) (e : Ending) (w' : World) : Prop :=
  ∃ r : Bool, e = .returned (.bool r) ∧ Grew w w' ∧ (r = true ↔ mayDlg cs tmo tries)
-- [GREAT
set_option maxRecDepth 100000 in
set_option maxHeartbeats 4000000 in
theorem law_may (X : Nat → Prop) (lv : Value) (cs : List Cmd) (tmo tries : Int) (w : World) (h1 : CmdsAt X w lv cs) (n1 : cs.length ≤ 20) (m1 : ∀ c ∈ cs, c.b.length ≤ 1100) (ht : -9223372036854775808 ≤ tmo ∧ tmo ≤ 9223372036854775807) (hr : -9223372036854775808 ≤ tries ∧ tries ≤ 9223372036854775807) :
    Calls Tryz.prog 6 #[lv, .int .i64 tmo, .int .i64 tries] w (MayT cs tmo tries w) := by
  have H1 := Lib.hid h1
  have M1 := Lib.hid m1
  obtain ⟨A1, c1, rfl, hc1, _⟩ := h1
  clear m1
  go_enter Tryz.func6, Tryz.ntmps6
  go_wp2_with fail
  go_loopw [11] (fun i wr => ∃ k : Nat, k ≤ cs.length ∧ i = .int .i64 (k : Nat) ∧ Hid (Grew w wr) ∧ Hid (∀ j x, cs[j]? = some x → j < k → mayCmd x)) (fun i _ => cs.length - (intOf i).toNat)
  case atStart => exact ⟨0, Nat.zero_le _, rfl, Lib.hid (Grew.refl _), Lib.hid (fun j x _ h => absurd h (Nat.not_lt_zero _))⟩
  case round =>
    obtain ⟨k, hk, rfl, G, HA⟩ := hrel
    by_cases hlt : k < cs.length
    · obtain ⟨b, o, cc, fv, e, _, hd, _⟩ := (H1.out.grew G.out).at_ k hlt
      cases e
      have hb := hd.lt
      have hm := M1.out _ (List.getElem_mem hlt)
      obtain ⟨A3, c3, rfl, hc3, _⟩ := id hd.row
      have q0 := hd.c0
      have q1 := hd.c1
      have q2 := hd.c2
      have q3 := hd.c3
      have kw := hd.kw
      have hki : (k : Int) < cs.length := by omega
      have hgk : Hid (cs[k]? = some cs[k]) := Lib.hid (List.getElem?_eq_getElem hlt)
      have hrow := hd.row
      clear hd
      generalize cs[k] = q at *
      obtain ⟨V, hV⟩ : ∃ V, wr.alloc (.cells #[.slice A3 q.b.length c3, .int .u8 (q.wait : Nat), .int .u8 (q.cls : Nat), .int .u8 (q.id : Nat)] 27) = V := ⟨_, rfl⟩
      have gV : Grew wr V := by rw [← hV]; exact (Grew.refl wr).alloc _
      have HM := Lib.hid (ref14_May q _ V (hrow.grew gV) kw (by omega))
      go_upto_region 4 with fail
      try rw [hV]
      have v0 : V.cell? ⟨wr.heap.size, 0, none⟩ = some (.slice A3 q.b.length c3) := by rw [← hV]; simp [go_sem]
      have v1 : V.cell? ⟨wr.heap.size, 1, none⟩ = some (.int .u8 (q.wait : Nat)) := by rw [← hV]; simp [go_sem]
      have v2 : V.cell? ⟨wr.heap.size, 2, none⟩ = some (.int .u8 (q.cls : Nat)) := by rw [← hV]; simp [go_sem]
      have v3 : V.cell? ⟨wr.heap.size, 3, none⟩ = some (.int .u8 (q.id : Nat)) := by rw [← hV]; simp [go_sem]
      have lV : wr.heap.size < V.heap.size := by rw [← hV]; simp
      clear hV q0 q1 q2 q3
      have G2 := Lib.hid (G.out.trans gV)
      by_cases hy : mayCmd q
      · rw [decide_eq_true hy] at HM
        go_wp2_with (go_at_call 15; refine HM.out.mono ?_; rintro e w4 ⟨rfl, g4⟩)
        go_round
        case rel => exact ⟨k + 1, by omega, by go_num, Lib.hid (G2.out.trans g4), Lib.hid (fun j x hj hk => by
          by_cases e : j = k
          · subst e; rw [hgk.out] at hj; cases hj; exact hy
          · exact HA.out j x hj (by omega))⟩
        case measure => simp [intOf]; omega
      · rw [decide_eq_false hy] at HM
        go_wp2_with (go_at_call 15; refine HM.out.mono ?_; rintro e w4 ⟨rfl, g4⟩)
        go_ret
        exact ⟨false, rfl, G2.out.trans g4, fun q => (by cases q), fun q => absurd (q.1 _ (List.mem_of_getElem? hgk.out)) hy⟩
    · obtain rfl : k = cs.length := by omega
      have HC := Lib.hid (all_upto (p := mayCmd) (fun j x h1 h2 => HA.out j x h1 h2))
      by_cases a0 : cs.length ≤ 16
      · have b0 : (cs.length : Int) ≤ 16 := by omega
        by_cases a1 : 100000000 ≤ tmo
        · have b1 : 100000000 ≤ tmo := by omega
          by_cases a2 : tmo ≤ 10000000000
          · have b2 : tmo ≤ 10000000000 := by omega
            by_cases a3 : 1 ≤ tries
            · have b3 : 1 ≤ tries := by omega
              by_cases a4 : tries ≤ 8
              · have b4 : tries ≤ 8 := by omega
                go_wp2_with fail
                go_ret
                exact ⟨true, rfl, G.out, fun _ => ⟨HC.out, a0, a1, a2, a3, a4⟩, fun _ => rfl⟩
              · have b4 : ¬ tries ≤ 8 := by omega
                go_wp2_with fail
                go_ret
                exact ⟨false, rfl, G.out, fun q => (by cases q), fun q => absurd q (fun q => by have := q.2.2.2.2.2; omega)⟩
            · have b3 : ¬ 1 ≤ tries := by omega
              go_wp2_with fail
              go_ret
              exact ⟨false, rfl, G.out, fun q => (by cases q), fun q => absurd q (fun q => by have := q.2.2.2.2.1; omega)⟩
          · have b2 : ¬ tmo ≤ 10000000000 := by omega
            go_wp2_with fail
            go_ret
            exact ⟨false, rfl, G.out, fun q => (by cases q), fun q => absurd q (fun q => by have := q.2.2.2.1; omega)⟩
        · have b1 : ¬ 100000000 ≤ tmo := by omega
          go_wp2_with fail
          go_ret
          exact ⟨false, rfl, G.out, fun q => (by cases q), fun q => absurd q (fun q => by have := q.2.2.1; omega)⟩
      · have b0 : ¬ (cs.length : Int) ≤ 16 := by omega
        go_wp2_with fail
        go_ret
        exact ⟨false, rfl, G.out, fun q => (by cases q), fun q => absurd q (fun q => by have := q.2.1; omega)⟩
-- MAY]
end Go.Proofs.YtcdmbnbanopioaaGreatDoor

namespace Go.Proofs.YtcdmbnbanopioaaGreatDoor
open Go.RowKit
set_option linter.unusedVariables false

/- Dialogues as the program holds them, plain: those that ended, one in flight, those that were not sent. -/
/-- Rows: those that ended, one in flight, those not sent. -/
structure Parts (rs E : List DRow) (fl : Option DRow) (W : List DRow) : Prop where
  eq : rs = E ++ (fl.toList ++ W)
  ends : ∀ r ∈ E, 2 ≤ r.st
  fly : ∀ r, fl = some r → r.st = 1 ∧ r.c.wait ≠ 0
  new : Fresh W
theorem send_app (now : Int) : ∀ (E l : List DRow), (∀ r ∈ E, 2 ≤ r.st) → sendL now (E ++ l) = (E ++ (sendL now l).1, (sendL now l).2)
  | [], l, _ => rfl
  | r :: E, l, h => by
    have h0 := h r (by simp)
    rw [List.cons_append, sendL, if_neg (by omega), send_app now E l (fun x hx => h x (by simp [hx]))]
    rfl
theorem tick_app (now tmo : Int) (tries : Nat) : ∀ (E l : List DRow), (∀ r ∈ E, 2 ≤ r.st) → tickL now tmo tries (E ++ l) = (E ++ (tickL now tmo tries l).1, (tickL now tmo tries l).2)
  | [], l, _ => rfl
  | r :: E, l, h => by
    have h0 := h r (by simp)
    rw [List.cons_append, tickL, if_neg (by omega), tick_app now tmo tries E l (fun x hx => h x (by simp [hx]))]
    rfl
theorem hear_app (wait : Nat) (good : Bool) (cls id : Nat) : ∀ (E l : List DRow), (∀ r ∈ E, 2 ≤ r.st) → hearL wait good cls id (E ++ l) = (E ++ (hearL wait good cls id l).1, (hearL wait good cls id l).2)
  | [], l, _ => rfl
  | r :: E, l, h => by
    have h0 := h r (by simp)
    rw [List.cons_append, hearL, if_neg (by omega), hear_app wait good cls id E l (fun x hx => h x (by simp [hx]))]
    rfl
theorem fly_app : ∀ (E l : List DRow), (∀ r ∈ E, 2 ≤ r.st) → flyOf (E ++ l) = flyOf l
  | [], l, _ => rfl
  | r :: E, l, h => by
    have h0 := h r (by simp)
    rw [List.cons_append, flyOf, if_neg (by omega), fly_app E l (fun x hx => h x (by simp [hx]))]
theorem left_app : ∀ (E l : List DRow), (∀ r ∈ E, 2 ≤ r.st) → leftOf (E ++ l) = leftOf l
  | [], l, _ => rfl
  | r :: E, l, h => by
    have h0 := h r (by simp)
    rw [List.cons_append, leftOf, if_neg (by omega), left_app E l (fun x hx => h x (by simp [hx]))]
    rfl
theorem done_app : ∀ (E l : List DRow), doneOf (E ++ l) = doneOf E + doneOf l
  | [], l => by rw [List.nil_append, doneOf]; omega
  | r :: E, l => by rw [List.cons_append, doneOf, doneOf, done_app E l]; omega
theorem lost_app : ∀ (E l : List DRow), lostOf (E ++ l) = lostOf E + lostOf l
  | [], l => by rw [List.nil_append, lostOf]; omega
  | r :: E, l => by rw [List.cons_append, lostOf, lostOf, lost_app E l]; omega
theorem done_le : ∀ E : List DRow, doneOf E ≤ E.length
  | [] => Nat.le_refl _
  | r :: E => by
    have := done_le E
    rw [doneOf, List.length_cons]
    split <;> omega
theorem lost_le : ∀ E : List DRow, lostOf E ≤ E.length
  | [] => Nat.le_refl _
  | r :: E => by
    have := lost_le E
    rw [lostOf, List.length_cons]
    split <;> omega
theorem fresh_counts : ∀ l : List DRow, Fresh l → doneOf l = 0 ∧ lostOf l = 0 ∧ leftOf l = l.length ∧ flyOf l = false
  | [], _ => ⟨rfl, rfl, rfl, rfl⟩
  | r :: l, h => by
    have h0 := (h r (by simp)).1
    obtain ⟨a, b, c, d⟩ := fresh_counts l (fun x hx => h x (by simp [hx]))
    refine ⟨by rw [doneOf, a, h0]; rfl, by rw [lostOf, b, h0]; rfl, by rw [leftOf, c, h0]; rfl, ?_⟩
    rw [flyOf, if_pos (by omega), h0]; rfl
section
variable {rs E W : List DRow} {fl : Option DRow} {r : DRow}
/-- What it counts. -/
theorem Parts.counts (h : Parts rs E fl W) : doneOf rs = doneOf E ∧ lostOf rs = lostOf E ∧ leftOf rs = W.length + (if fl.isSome then 1 else 0) ∧ flyOf rs = fl.isSome := by
  obtain ⟨e, he, hf, hw⟩ := h
  obtain ⟨a, b, c, d⟩ := fresh_counts W hw
  subst e
  rw [done_app, lost_app, left_app _ _ he, fly_app _ _ he]
  cases fl with
  | none => exact ⟨by simp [a], by simp [b], by simp [c], by simp [d]⟩
  | some r =>
    have h1 := (hf r rfl).1
    simp only [Option.toList, List.cons_append, List.nil_append, Option.isSome]
    rw [doneOf, lostOf, leftOf, flyOf, a, b, c, h1]
    exact ⟨by simp, by simp, by simp, by simp⟩
theorem Parts.sound_fly {tries : Nat} {now : Int} : ∀ {E W : List DRow} {r : DRow}, Sound tries now (E ++ r :: W) → (∀ e ∈ E, 2 ≤ e.st) → r.st = 1 → r.many ≤ tries ∧ r.sent ≤ now := by
  intro E
  induction E with
  | nil =>
    intro W r h _ h1
    cases h with
    | new hf => have := (hf r (by simp)).1; omega
    | fly _ hm hs _ => exact ⟨hm, hs⟩
    | fin h2 _ _ => omega
  | cons e E ih =>
    intro W r h he h1
    have h0 := he e (by simp)
    cases h with
    | new hf => have := (hf e (by simp)).1; omega
    | fly h3 _ _ _ => omega
    | fin _ _ hs => exact ih hs (fun x hx => he x (by simp [hx])) h1
theorem ends_more (h : ∀ e ∈ E, 2 ≤ e.st) (hr : 2 ≤ r.st) : ∀ e ∈ E ++ [r], 2 ≤ e.st := fun e he => by
  rcases List.mem_append.1 he with q | q
  · exact h e q
  · simp at q; subst q; exact hr
theorem Fresh.tail {r : DRow} {W : List DRow} (h : Fresh (r :: W)) : Fresh W := fun x hx => h x (by simp [hx])
/-- A tick where none is in flight: as a send. -/
theorem Parts.tick_none (h : Parts rs E none W) (now tmo : Int) (tries : Nat) : tickL now tmo tries rs = (E ++ (sendL now W).1, (sendL now W).2) := by
  rw [h.eq, tick_app _ _ _ _ _ h.ends]
  have e : tickL now tmo tries W = sendL now W := by
    cases W with
    | nil => rfl
    | cons q W =>
      have h0 := (h.new q (by simp)).1
      rw [tickL, sendL, if_pos (show q.st < 2 by omega), if_pos (show q.st < 2 by omega), if_neg (by omega)]
  simp only [Option.toList, List.nil_append]
  rw [e]
theorem send_new {q : DRow} {W : List DRow} (h : Fresh (q :: W)) (now : Int) : sendL now (q :: W) = (sentOf now q :: W, some q.c.b) := by
  have h0 := (h q (by simp)).1
  rw [sendL, if_pos (by omega)]
theorem Parts.tick_young (h : Parts rs E (some r) W) (now tmo : Int) (tries : Nat) (hy : now - r.sent < tmo) : tickL now tmo tries rs = (rs, none) := by
  have h1 := (h.fly r rfl).1
  rw [h.eq, tick_app _ _ _ _ _ h.ends]
  simp only [Option.toList, List.cons_append, List.nil_append]
  rw [tickL, if_pos (by omega), if_pos h1, if_pos hy]
theorem Parts.tick_again (h : Parts rs E (some r) W) (now tmo : Int) (tries : Nat) (hy : ¬ now - r.sent < tmo) (hm : r.many < tries) : tickL now tmo tries rs = (E ++ sentOf now r :: W, some r.c.b) := by
  have h1 := (h.fly r rfl).1
  rw [h.eq, tick_app _ _ _ _ _ h.ends]
  simp only [Option.toList, List.cons_append, List.nil_append]
  rw [tickL, if_pos (by omega), if_pos h1, if_neg hy, if_pos hm]
theorem Parts.tick_lost (h : Parts rs E (some r) W) (now tmo : Int) (tries : Nat) (hy : ¬ now - r.sent < tmo) (hm : ¬ r.many < tries) : tickL now tmo tries rs = ((E ++ [turnedOf 3 r]) ++ (sendL now W).1, (sendL now W).2) := by
  have h1 := (h.fly r rfl).1
  rw [h.eq, tick_app _ _ _ _ _ h.ends]
  simp only [Option.toList, List.cons_append, List.nil_append]
  rw [tickL, if_pos (by omega), if_pos h1, if_neg hy, if_neg hm, List.append_assoc]
  rfl
/-- What is behind a send of the next one. -/
theorem Parts.sent_done {q : DRow} {E W : List DRow} (he : ∀ e ∈ E, 2 ≤ e.st) (hw : Fresh (q :: W)) (now : Int) (h0 : q.c.wait = 0) :
    Parts (E ++ (sentOf now q :: W)) (E ++ [sentOf now q]) none W ∧ doneOf (E ++ [sentOf now q]) = doneOf E + 1 ∧ lostOf (E ++ [sentOf now q]) = lostOf E := by
  have h2 : (sentOf now q).st = 2 := by show (if q.c.wait = 0 then 2 else 1) = 2; rw [if_pos h0]
  refine ⟨⟨by simp, ends_more he (by omega), fun r e => (by cases e), hw.tail⟩, ?_, ?_⟩
  · rw [done_app, doneOf, h2]; rfl
  · rw [lost_app, lostOf, h2]; rfl
theorem Parts.sent_fly {q : DRow} {E W : List DRow} (he : ∀ e ∈ E, 2 ≤ e.st) (hw : Fresh (q :: W)) (now : Int) (h0 : q.c.wait ≠ 0) :
    sentOf now q = ⟨q.c, 1, now, 1⟩ ∧ Parts (E ++ (sentOf now q :: W)) E (some ⟨q.c, 1, now, 1⟩) W := by
  have e : sentOf now q = ⟨q.c, 1, now, 1⟩ := by
    unfold sentOf
    rw [if_neg h0, (hw q (by simp)).2]
  exact ⟨e, ⟨by rw [e]; rfl, he, fun r h => by cases h; exact ⟨rfl, h0⟩, hw.tail⟩⟩
theorem Parts.again_fly (h : Parts rs E (some r) W) (now : Int) : sentOf now r = ⟨r.c, 1, now, r.many + 1⟩ ∧ Parts (E ++ (sentOf now r :: W)) E (some ⟨r.c, 1, now, r.many + 1⟩) W := by
  have hw := (h.fly r rfl).2
  have e : sentOf now r = ⟨r.c, 1, now, r.many + 1⟩ := by unfold sentOf; rw [if_neg hw]
  exact ⟨e, ⟨by rw [e]; rfl, h.ends, fun q e => by cases e; exact ⟨rfl, hw⟩, h.new⟩⟩
/-- What is behind an end of the one in flight. -/
theorem Parts.turned (h : Parts rs E (some r) W) (s : Nat) (hs : 2 ≤ s) : Parts (E ++ (turnedOf s r :: W)) (E ++ [turnedOf s r]) none W :=
  ⟨by simp, ends_more h.ends hs, fun q e => (by cases e), h.new⟩
theorem turned_done (E : List DRow) (r : DRow) : doneOf (E ++ [turnedOf 2 r]) = doneOf E + 1 ∧ lostOf (E ++ [turnedOf 2 r]) = lostOf E := by
  rw [done_app, lost_app]; exact ⟨rfl, rfl⟩
theorem turned_lost (E : List DRow) (r : DRow) : doneOf (E ++ [turnedOf 3 r]) = doneOf E ∧ lostOf (E ++ [turnedOf 3 r]) = lostOf E + 1 := by
  rw [done_app, lost_app]; exact ⟨rfl, rfl⟩
theorem Parts.hear_none (h : Parts rs E none W) (wait : Nat) (good : Bool) (cls id : Nat) : hearL wait good cls id rs = (rs, false) := by
  rw [h.eq, hear_app _ _ _ _ _ _ h.ends]
  simp only [Option.toList, List.nil_append]
  rw [hear_fresh _ _ _ _ _ h.new]
theorem Parts.hear_fly (h : Parts rs E (some r) W) (wait : Nat) (good : Bool) (cls id : Nat) : hearL wait good cls id rs =
    if heardBy wait cls id r.c then (E ++ (turnedOf (if good then 2 else 3) r :: W), true) else (rs, false) := by
  have h1 := (h.fly r rfl).1
  rw [h.eq, hear_app _ _ _ _ _ _ h.ends]
  simp only [Option.toList, List.cons_append, List.nil_append]
  rw [hearL, if_pos (by omega)]
  by_cases q : heardBy wait cls id r.c
  · rw [if_pos ⟨h1, q⟩, if_pos q]
  · rw [if_neg (fun e => q e.2), if_neg q]
end
/- The program's dialogue behind a pointer: what stands where; whether it was made, whether one is in flight, how many are done. -/
/-- A command in flight, in a block of its own. -/
structure FlyIn (K : Nat → Prop) (w : World) (h : Nat) (r : DRow) (v : Value) : Prop where
  cmd : CmdIn w h 0 r.c v
  c4 : w.cell? ⟨h, 4, none⟩ = some (.int .i64 (r.many : Nat))
  c5 : w.cell? ⟨h, 5, none⟩ = some (.int .i64 r.sent)
  f4 : w.frozen? ⟨h, 4, none⟩ = false
  f5 : w.frozen? ⟨h, 5, none⟩ = false
  km : r.many ≤ 50
  ks : -9223372036854775808 ≤ r.sent ∧ r.sent ≤ 9223372036854775807
  may : mayCmd r.c
  ob : ∀ b, v.ownBlock = some b → K b
  nk : ¬ K h
theorem FlyIn.far {K F : Nat → Prop} {w w' : World} {h : Nat} {r : DRow} {v : Value} (H : FlyIn K w h r v) (g : Far F w w') (hb : ¬ F h) (hK : ∀ b, K b → ¬ F b) : FlyIn K w' h r v := by
  have l := H.cmd.lt
  exact ⟨H.cmd.far g hb (fun b e => hK b (H.ob b e)), (g.cell (p := ⟨h, 4, none⟩) l hb).trans H.c4, (g.cell (p := ⟨h, 5, none⟩) l hb).trans H.c5, (g.frozen (p := ⟨h, 4, none⟩) l hb).trans H.f4, (g.frozen (p := ⟨h, 5, none⟩) l hb).trans H.f5, H.km, H.ks, H.may, H.ob, H.nk⟩
def flyV : Option (Nat × DRow) → Value
  | none => .pointer none
  | some x => .pointer (some ⟨x.1, 0, none⟩)
theorem CmdsAt.farP {X F : Nat → Prop} {w w' : World} {v : Value} {cs : List Cmd} (h : CmdsAt X w v cs) (g : Far F w w') (hp : ∀ c ∈ cs, 0 < c.b.length) (hv : ∀ b, v.ownBlock = some b → ¬ F b) (hX : ∀ b, X b → ¬ F b) : CmdsAt X w' v cs := by
  obtain ⟨A, c, rfl, hc, hr⟩ := h
  refine ⟨A, c, rfl, hc, fun hn => ?_⟩
  obtain ⟨b, o, rfl, hf⟩ := hr hn
  refine ⟨b, o, rfl, fun i q hi => ?_⟩
  obtain ⟨fv, h1, h2⟩ := hf i q hi
  exact ⟨fv, h1.far g (hv b rfl) (fun b' e => hX b' (h2 (hp q (List.mem_of_getElem? hi)) b' e)), h2⟩
/-- The program's dialogue in block g: L its list of commands that were not sent, fl the one in flight. -/
structure PrgAt (K : Nat → Prop) (w : World) (g : Nat) (L : Value) (fl : Option (Nat × DRow)) (W : List Cmd) (dn ls : Nat) (now tmo : Int) (tries : Nat) : Prop where
  lt : g < w.heap.size
  c0 : w.cell? ⟨g, 0, none⟩ = some (.int .i64 tmo)
  c1 : w.cell? ⟨g, 1, none⟩ = some (.int .i64 (tries : Nat))
  c2 : w.cell? ⟨g, 2, none⟩ = some L
  c3 : w.cell? ⟨g, 3, none⟩ = some (flyV fl)
  c4 : w.cell? ⟨g, 4, none⟩ = some (.int .i64 (dn : Nat))
  c5 : w.cell? ⟨g, 5, none⟩ = some (.int .i64 (ls : Nat))
  c6 : w.cell? ⟨g, 6, none⟩ = some (.int .i64 now)
  f2 : w.frozen? ⟨g, 2, none⟩ = false
  f3 : w.frozen? ⟨g, 3, none⟩ = false
  f4 : w.frozen? ⟨g, 4, none⟩ = false
  f5 : w.frozen? ⟨g, 5, none⟩ = false
  f6 : w.frozen? ⟨g, 6, none⟩ = false
  list : CmdsAt K w L W
  lb : ∀ b, L.ownBlock = some b → K b
  ll : W.length ≤ 50
  may : ∀ c ∈ W, mayCmd c
  fly : ∀ h r, fl = some (h, r) → h ≠ g ∧ ∃ v, FlyIn K w h r v
  ng : ¬ K g
  kb : ∀ b, K b → b < w.heap.size
  kd : dn ≤ 50 ∧ ls ≤ 50
  kn : -9223372036854775808 ≤ now ∧ now ≤ 9223372036854775807
  kt : 100000000 ≤ tmo ∧ tmo ≤ 10000000000
  kr : 1 ≤ tries ∧ tries ≤ 8
theorem PrgAt.far {K F : Nat → Prop} {w w' : World} {g : Nat} {L : Value} {fl : Option (Nat × DRow)} {W : List Cmd} {dn ls : Nat} {now tmo : Int} {tries : Nat} (h : PrgAt K w g L fl W dn ls now tmo tries) (k : Far F w w') (hg : ¬ F g) (hf : ∀ h r, fl = some (h, r) → ¬ F h) (hK : ∀ b, K b → ¬ F b) : PrgAt K w' g L fl W dn ls now tmo tries := by
  have l := h.lt
  exact ⟨Nat.lt_of_lt_of_le l k.size, (k.cell (p := ⟨g, 0, none⟩) l hg).trans h.c0, (k.cell (p := ⟨g, 1, none⟩) l hg).trans h.c1, (k.cell (p := ⟨g, 2, none⟩) l hg).trans h.c2, (k.cell (p := ⟨g, 3, none⟩) l hg).trans h.c3, (k.cell (p := ⟨g, 4, none⟩) l hg).trans h.c4, (k.cell (p := ⟨g, 5, none⟩) l hg).trans h.c5, (k.cell (p := ⟨g, 6, none⟩) l hg).trans h.c6,
    (k.frozen (p := ⟨g, 2, none⟩) l hg).trans h.f2, (k.frozen (p := ⟨g, 3, none⟩) l hg).trans h.f3, (k.frozen (p := ⟨g, 4, none⟩) l hg).trans h.f4, (k.frozen (p := ⟨g, 5, none⟩) l hg).trans h.f5, (k.frozen (p := ⟨g, 6, none⟩) l hg).trans h.f6,
    h.list.farP k (fun c hc => (h.may c hc).1) (fun b e => hK b (h.lb b e)) hK, h.lb, h.ll, h.may, fun x r e => by obtain ⟨n, v, hv⟩ := h.fly x r e; exact ⟨n, v, hv.far k (hf x r e) hK⟩, h.ng, fun b hb => Nat.lt_of_lt_of_le (h.kb b hb) k.size, h.kd, h.kn, h.kt, h.kr⟩
theorem PrgAt.grew {K : Nat → Prop} {w w' : World} {g : Nat} {L : Value} {fl : Option (Nat × DRow)} {W : List Cmd} {dn ls : Nat} {now tmo : Int} {tries : Nat} (h : PrgAt K w g L fl W dn ls now tmo tries) (k : Grew w w') : PrgAt K w' g L fl W dn ls now tmo tries :=
  h.far (F := fun _ => False) (Far.of_grew k) (fun q => q) (fun _ _ _ q => q) (fun _ _ q => q)
/-- The program's dialogue as the document's: F what it writes, K what it reads alone. -/
def PrgR (K : Nat → Prop) (w : World) (v : Value) (F : Nat → Prop) (d : Dlg) : Prop :=
  ∃ (g : Nat) (L : Value) (fl : Option (Nat × DRow)) (E W : List DRow), v = .pointer (some ⟨g, 0, none⟩) ∧ (∀ b, F b ↔ b = g ∨ ∃ r, fl = some (b, r)) ∧ Parts d.rows E (fl.map Prod.snd) W ∧
    PrgAt K w g L fl (W.map DRow.c) (doneOf E) (lostOf E) (if d.came then d.now else -9223372036854775808) d.tmo d.tries
theorem PrgR.far {K G : Nat → Prop} {w w' : World} {v : Value} {F : Nat → Prop} {d : Dlg} (h : PrgR K w v F d) (k : Far G w w') (hF : ∀ b, F b ∨ K b → ¬ G b) : PrgR K w' v F d := by
  obtain ⟨g, L, fl, E, W, rfl, h1, h2, h3⟩ := h
  exact ⟨g, L, fl, E, W, rfl, h1, h2, h3.far k (hF g (.inl ((h1 g).2 (.inl rfl)))) (fun x r e => hF x (.inl ((h1 x).2 (.inr ⟨r, e⟩)))) (fun b hb => hF b (.inr hb))⟩
theorem PrgR.lt {K : Nat → Prop} {w : World} {v : Value} {F : Nat → Prop} {d : Dlg} (h : PrgR K w v F d) : ∀ b, F b ∨ K b → b < w.heap.size := fun b hb => by
  obtain ⟨g, L, fl, E, W, rfl, h1, h2, h3⟩ := h
  rcases hb with hb | hb
  · rcases (h1 b).1 hb with rfl | ⟨r, e⟩
    · exact h3.lt
    · obtain ⟨_, v, hv⟩ := h3.fly b r e; exact hv.cmd.lt
  · exact h3.kb b hb
theorem PrgR.apart {K : Nat → Prop} {w : World} {v : Value} {F : Nat → Prop} {d : Dlg} (h : PrgR K w v F d) : ∀ b, K b → ¬ F b := fun b hb e => by
  obtain ⟨g, L, fl, E, W, rfl, h1, h2, h3⟩ := h
  rcases (h1 b).1 e with rfl | ⟨r, e⟩
  · exact h3.ng hb
  · obtain ⟨_, v, hv⟩ := h3.fly b r e; exact hv.nk hb
theorem PrgR.ptr {K : Nat → Prop} {w : World} {v : Value} {F : Nat → Prop} {d : Dlg} (h : PrgR K w v F d) : ∃ p, v = .pointer (some p) := by
  obtain ⟨g, L, fl, E, W, rfl, _⟩ := h
  exact ⟨_, rfl⟩
-- [MADE
set_option maxRecDepth 100000 in
set_option maxHeartbeats 2000000 in
theorem prg_isMade (w : World) (g : Nat) (tmo : Int) (lt : g < w.heap.size) (c0 : w.cell? ⟨g, 0, none⟩ = some (.int .i64 tmo)) (ht : 0 < tmo) :
    Calls Tryz.prog 38 #[.pointer (some ⟨g, 0, none⟩)] w fun e w' => e = .returned (.bool true) ∧ w = w' := by
  go_enter Tryz.func38, Tryz.ntmps38
  go_wp2_with fail
  go_ret
  exact ⟨by simp, rfl⟩
set_option maxRecDepth 100000 in
set_option maxHeartbeats 2000000 in
theorem prg_isMade_none (w : World) : Calls Tryz.prog 38 #[.pointer none] w fun e w' => e = .returned (.bool false) ∧ w = w' := by
  go_enter Tryz.func38, Tryz.ntmps38
  go_wp2_with fail
  go_ret
  exact ⟨rfl, rfl⟩
-- MADE]
section
variable {K : Nat → Prop} {w : World} {g : Nat} {L : Value} {fl : Option (Nat × DRow)} {W : List Cmd} {dn ls : Nat} {now tmo : Int} {tries : Nat}
-- [FLYING
set_option maxRecDepth 100000 in
set_option maxHeartbeats 2000000 in
theorem prg_Flying (h : PrgAt K w g L fl W dn ls now tmo tries) :
    Calls Tryz.prog 20 #[.pointer (some ⟨g, 0, none⟩)] w fun e w' => e = .returned (.bool fl.isSome) ∧ w = w' := by
  have HM := Lib.hid (prg_isMade w g tmo h.lt h.c0 (by have := h.kt; omega))
  have lt := h.lt
  have c3 := h.c3
  cases fl with
  | none =>
    unfold flyV at c3
    clear h
    go_enter Tryz.func20, Tryz.ntmps20
    go_wp2_with (go_at_call 38; refine HM.out.mono ?_; rintro e w1 ⟨rfl, hw1⟩; subst hw1)
    go_ret
    exact ⟨rfl, rfl⟩
  | some x =>
    unfold flyV at c3
    clear h
    go_enter Tryz.func20, Tryz.ntmps20
    go_wp2_with (go_at_call 38; refine HM.out.mono ?_; rintro e w1 ⟨rfl, hw1⟩; subst hw1)
    go_ret
    exact ⟨rfl, rfl⟩
set_option maxRecDepth 100000 in
set_option maxHeartbeats 2000000 in
theorem prg_Flying_none (w : World) : Calls Tryz.prog 20 #[.pointer none] w fun e w' => e = .returned (.bool false) ∧ w = w' := by
  have HM := Lib.hid (prg_isMade_none w)
  go_enter Tryz.func20, Tryz.ntmps20
  go_wp2_with (go_at_call 38; refine HM.out.mono ?_; rintro e w1 ⟨rfl, hw1⟩; subst hw1)
  go_ret
  exact ⟨rfl, rfl⟩
-- FLYING]
-- [COUNTS
set_option maxRecDepth 100000 in
set_option maxHeartbeats 4000000 in
theorem prg_Counts (h : PrgAt K w g L fl W dn ls now tmo tries) :
    Calls Tryz.prog 19 #[.pointer (some ⟨g, 0, none⟩)] w fun e w' => e = .returned (.tuple #[.int .i64 (dn : Nat), .int .i64 (ls : Nat), .int .i64 ((W.length + (if fl.isSome then 1 else 0) : Nat) : Int)]) ∧ Grew w w' := by
  have HM := Lib.hid (prg_isMade w g tmo h.lt h.c0 (by have := h.kt; omega))
  have HF := Lib.hid (prg_Flying h)
  have lt := h.lt
  have c2 := h.c2
  have c4 := h.c4
  have c5 := h.c5
  have ll := h.ll
  obtain ⟨A, c, rfl, hc, _⟩ := h.list
  clear h
  have G0 := Grew.refl w
  cases hb : fl.isSome with
  | false =>
    rw [hb] at HF
    go_enter Tryz.func19, Tryz.ntmps19
    go_wp2_with (first | (go_at_call 38; refine HM.out.mono ?_; rintro e w1 ⟨rfl, hw1⟩; subst hw1) | (go_at_call 20; refine HF.out.mono ?_; rintro e w1 ⟨rfl, hw1⟩; subst hw1))
    go_quiet (fail)
    go_wp2_with fail
    exact bodyPost_ret (by simp [results, Tryz.results19, go_sem]; try rfl) rfl ⟨rfl, G0.drewN nq⟩
  | true =>
    rw [hb] at HF
    have e1 : IntKind.i64.wrap ((W.length : Int) + 1) = ((W.length + 1 : Nat) : Int) := by rw [IntWalk.i64_in _ (by omega)]; omega
    go_enter Tryz.func19, Tryz.ntmps19
    go_wp2_with (first | (go_at_call 38; refine HM.out.mono ?_; rintro e w1 ⟨rfl, hw1⟩; subst hw1) | (go_at_call 20; refine HF.out.mono ?_; rintro e w1 ⟨rfl, hw1⟩; subst hw1))
    go_quiet (fail)
    go_wp2_with fail
    exact bodyPost_ret (by simp [results, Tryz.results19, go_sem]; try rfl) rfl ⟨by simp, G0.drewN nq⟩
set_option maxRecDepth 100000 in
set_option maxHeartbeats 4000000 in
theorem prg_Counts_none (w : World) : Calls Tryz.prog 19 #[.pointer none] w fun e w' => e = .returned (.tuple #[.int .i64 0, .int .i64 0, .int .i64 0]) ∧ Grew w w' := by
  have HM := Lib.hid (prg_isMade_none w)
  go_enter Tryz.func19, Tryz.ntmps19
  go_wp2_with (go_at_call 38; refine HM.out.mono ?_; rintro e w1 ⟨rfl, hw1⟩; subst hw1)
  exact bodyPost_ret (by simp [results, Tryz.results19, go_sem]; try rfl) rfl ⟨rfl, Grew.refl _⟩
-- COUNTS]
theorem wrap_u64P (v : Int) : IntKind.u64.wrap v = v % 18446744073709551616 := by
  unfold IntKind.wrap
  rfl
-- [LATE
set_option maxRecDepth 100000 in
set_option maxHeartbeats 4000000 in
theorem prg_isLate {h : Nat} {r : DRow} (H : PrgAt K w g L (some (h, r)) W dn ls now tmo tries) (hs : r.sent ≤ now) :
    Calls Tryz.prog 40 #[.pointer (some ⟨g, 0, none⟩)] w fun e w' => e = .returned (.bool (decide (tmo ≤ now - r.sent))) ∧ Grew w w' := by
  obtain ⟨_, v, hv⟩ := H.fly h r rfl
  have lt := H.lt
  have c0 := H.c0
  have c3 := H.c3
  have c6 := H.c6
  have lh := hv.cmd.lt
  have d5 := hv.c5
  have ks := hv.ks
  have kn := H.kn
  have kt := H.kt
  unfold flyV at c3
  simp only at c3
  generalize r.sent = s at *
  clear H hv
  have G0 := Grew.refl w
  go_enter Tryz.func40, Tryz.ntmps40
  go_wp2_with fail
  go_quiet (fail)
  go_wp2_with fail
  go_ret
  have e : IntKind.u64.wrap (IntKind.u64.wrap now - IntKind.u64.wrap s) = now - s := by rw [wrap_u64P, wrap_u64P, wrap_u64P]; omega
  exact ⟨by rw [e]; rfl, G0.drewN nq⟩
-- LATE]
end
/- The program's dialogue: what is written where: its seven cells; the one in flight. -/
/-- Seven cells side by side. -/
structure SevenAt (w : World) (g : Nat) (x0 x1 x2 x3 x4 x5 x6 : Value) : Prop where
  lt : g < w.heap.size
  c0 : w.cell? ⟨g, 0, none⟩ = some x0
  c1 : w.cell? ⟨g, 1, none⟩ = some x1
  c2 : w.cell? ⟨g, 2, none⟩ = some x2
  c3 : w.cell? ⟨g, 3, none⟩ = some x3
  c4 : w.cell? ⟨g, 4, none⟩ = some x4
  c5 : w.cell? ⟨g, 5, none⟩ = some x5
  c6 : w.cell? ⟨g, 6, none⟩ = some x6
  f2 : w.frozen? ⟨g, 2, none⟩ = false
  f3 : w.frozen? ⟨g, 3, none⟩ = false
  f4 : w.frozen? ⟨g, 4, none⟩ = false
  f5 : w.frozen? ⟨g, 5, none⟩ = false
  f6 : w.frozen? ⟨g, 6, none⟩ = false
section
variable {w w' : World} {g : Nat} {x0 x1 x2 x3 x4 x5 x6 : Value}
theorem SevenAt.far {F : Nat → Prop} (h : SevenAt w g x0 x1 x2 x3 x4 x5 x6) (k : Far F w w') (hg : ¬ F g) : SevenAt w' g x0 x1 x2 x3 x4 x5 x6 := by
  have l := h.lt
  exact ⟨Nat.lt_of_lt_of_le l k.size, (k.cell (p := ⟨g, 0, none⟩) l hg).trans h.c0, (k.cell (p := ⟨g, 1, none⟩) l hg).trans h.c1, (k.cell (p := ⟨g, 2, none⟩) l hg).trans h.c2, (k.cell (p := ⟨g, 3, none⟩) l hg).trans h.c3, (k.cell (p := ⟨g, 4, none⟩) l hg).trans h.c4, (k.cell (p := ⟨g, 5, none⟩) l hg).trans h.c5, (k.cell (p := ⟨g, 6, none⟩) l hg).trans h.c6,
    (k.frozen (p := ⟨g, 2, none⟩) l hg).trans h.f2, (k.frozen (p := ⟨g, 3, none⟩) l hg).trans h.f3, (k.frozen (p := ⟨g, 4, none⟩) l hg).trans h.f4, (k.frozen (p := ⟨g, 5, none⟩) l hg).trans h.f5, (k.frozen (p := ⟨g, 6, none⟩) l hg).trans h.f6⟩
theorem ne_off {g i j : Nat} (h : i ≠ j) : (⟨g, i, none⟩ : Addr) ≠ ⟨g, j, none⟩ := fun e => h (by injection e)
theorem SevenAt.put2 (h : SevenAt w g x0 x1 x2 x3 x4 x5 x6) (u : Value) : SevenAt (w.setCell ⟨g, 2, none⟩ u) g x0 x1 u x3 x4 x5 x6 := by
  obtain ⟨l, c0, c1, c2, c3, c4, c5, c6, f2, f3, f4, f5, f6⟩ := h
  exact ⟨by simpa [World.setCell] using l, (World.cell?_setCell_other _ _ _ _ (ne_off (by omega))).trans c0, (World.cell?_setCell_other _ _ _ _ (ne_off (by omega))).trans c1, World.cell?_setCell_same _ _ _ c2, (World.cell?_setCell_other _ _ _ _ (ne_off (by omega))).trans c3, (World.cell?_setCell_other _ _ _ _ (ne_off (by omega))).trans c4, (World.cell?_setCell_other _ _ _ _ (ne_off (by omega))).trans c5, (World.cell?_setCell_other _ _ _ _ (ne_off (by omega))).trans c6, by simpa [go_sem] using f2, by simpa [go_sem] using f3, by simpa [go_sem] using f4, by simpa [go_sem] using f5, by simpa [go_sem] using f6⟩
theorem SevenAt.put3 (h : SevenAt w g x0 x1 x2 x3 x4 x5 x6) (u : Value) : SevenAt (w.setCell ⟨g, 3, none⟩ u) g x0 x1 x2 u x4 x5 x6 := by
  obtain ⟨l, c0, c1, c2, c3, c4, c5, c6, f2, f3, f4, f5, f6⟩ := h
  exact ⟨by simpa [World.setCell] using l, (World.cell?_setCell_other _ _ _ _ (ne_off (by omega))).trans c0, (World.cell?_setCell_other _ _ _ _ (ne_off (by omega))).trans c1, (World.cell?_setCell_other _ _ _ _ (ne_off (by omega))).trans c2, World.cell?_setCell_same _ _ _ c3, (World.cell?_setCell_other _ _ _ _ (ne_off (by omega))).trans c4, (World.cell?_setCell_other _ _ _ _ (ne_off (by omega))).trans c5, (World.cell?_setCell_other _ _ _ _ (ne_off (by omega))).trans c6, by simpa [go_sem] using f2, by simpa [go_sem] using f3, by simpa [go_sem] using f4, by simpa [go_sem] using f5, by simpa [go_sem] using f6⟩
theorem SevenAt.put4 (h : SevenAt w g x0 x1 x2 x3 x4 x5 x6) (u : Value) : SevenAt (w.setCell ⟨g, 4, none⟩ u) g x0 x1 x2 x3 u x5 x6 := by
  obtain ⟨l, c0, c1, c2, c3, c4, c5, c6, f2, f3, f4, f5, f6⟩ := h
  exact ⟨by simpa [World.setCell] using l, (World.cell?_setCell_other _ _ _ _ (ne_off (by omega))).trans c0, (World.cell?_setCell_other _ _ _ _ (ne_off (by omega))).trans c1, (World.cell?_setCell_other _ _ _ _ (ne_off (by omega))).trans c2, (World.cell?_setCell_other _ _ _ _ (ne_off (by omega))).trans c3, World.cell?_setCell_same _ _ _ c4, (World.cell?_setCell_other _ _ _ _ (ne_off (by omega))).trans c5, (World.cell?_setCell_other _ _ _ _ (ne_off (by omega))).trans c6, by simpa [go_sem] using f2, by simpa [go_sem] using f3, by simpa [go_sem] using f4, by simpa [go_sem] using f5, by simpa [go_sem] using f6⟩
theorem SevenAt.put5 (h : SevenAt w g x0 x1 x2 x3 x4 x5 x6) (u : Value) : SevenAt (w.setCell ⟨g, 5, none⟩ u) g x0 x1 x2 x3 x4 u x6 := by
  obtain ⟨l, c0, c1, c2, c3, c4, c5, c6, f2, f3, f4, f5, f6⟩ := h
  exact ⟨by simpa [World.setCell] using l, (World.cell?_setCell_other _ _ _ _ (ne_off (by omega))).trans c0, (World.cell?_setCell_other _ _ _ _ (ne_off (by omega))).trans c1, (World.cell?_setCell_other _ _ _ _ (ne_off (by omega))).trans c2, (World.cell?_setCell_other _ _ _ _ (ne_off (by omega))).trans c3, (World.cell?_setCell_other _ _ _ _ (ne_off (by omega))).trans c4, World.cell?_setCell_same _ _ _ c5, (World.cell?_setCell_other _ _ _ _ (ne_off (by omega))).trans c6, by simpa [go_sem] using f2, by simpa [go_sem] using f3, by simpa [go_sem] using f4, by simpa [go_sem] using f5, by simpa [go_sem] using f6⟩
theorem SevenAt.put6 (h : SevenAt w g x0 x1 x2 x3 x4 x5 x6) (u : Value) : SevenAt (w.setCell ⟨g, 6, none⟩ u) g x0 x1 x2 x3 x4 x5 u := by
  obtain ⟨l, c0, c1, c2, c3, c4, c5, c6, f2, f3, f4, f5, f6⟩ := h
  exact ⟨by simpa [World.setCell] using l, (World.cell?_setCell_other _ _ _ _ (ne_off (by omega))).trans c0, (World.cell?_setCell_other _ _ _ _ (ne_off (by omega))).trans c1, (World.cell?_setCell_other _ _ _ _ (ne_off (by omega))).trans c2, (World.cell?_setCell_other _ _ _ _ (ne_off (by omega))).trans c3, (World.cell?_setCell_other _ _ _ _ (ne_off (by omega))).trans c4, (World.cell?_setCell_other _ _ _ _ (ne_off (by omega))).trans c5, World.cell?_setCell_same _ _ _ c6, by simpa [go_sem] using f2, by simpa [go_sem] using f3, by simpa [go_sem] using f4, by simpa [go_sem] using f5, by simpa [go_sem] using f6⟩
theorem seven_new (w : World) (x0 x1 x2 x3 x4 x5 x6 : Value) (E : TypeId) : ∃ W, w.alloc (.cells #[x0, x1, x2, x3, x4, x5, x6] E) = W ∧ Grew w W ∧ SevenAt W w.heap.size x0 x1 x2 x3 x4 x5 x6 :=
  ⟨_, rfl, (Grew.refl _).alloc _, by simp, by simp [go_sem], by simp [go_sem], by simp [go_sem], by simp [go_sem], by simp [go_sem], by simp [go_sem], by simp [go_sem], by simp [go_sem], by simp [go_sem], by simp [go_sem], by simp [go_sem], by simp [go_sem]⟩
end
/-- Six cells side by side: what is in flight. -/
structure SixAt (w : World) (g : Nat) (x0 x1 x2 x3 x4 x5 : Value) : Prop where
  lt : g < w.heap.size
  c0 : w.cell? ⟨g, 0, none⟩ = some x0
  c1 : w.cell? ⟨g, 1, none⟩ = some x1
  c2 : w.cell? ⟨g, 2, none⟩ = some x2
  c3 : w.cell? ⟨g, 3, none⟩ = some x3
  c4 : w.cell? ⟨g, 4, none⟩ = some x4
  c5 : w.cell? ⟨g, 5, none⟩ = some x5
  f4 : w.frozen? ⟨g, 4, none⟩ = false
  f5 : w.frozen? ⟨g, 5, none⟩ = false
theorem six_newP (w : World) (x0 x1 x2 x3 x4 x5 : Value) (E : TypeId) : ∃ W, w.alloc (.cells #[x0, x1, x2, x3, x4, x5] E) = W ∧ Grew w W ∧ SixAt W w.heap.size x0 x1 x2 x3 x4 x5 :=
  ⟨_, rfl, (Grew.refl _).alloc _, by simp, by simp [go_sem], by simp [go_sem], by simp [go_sem], by simp [go_sem], by simp [go_sem], by simp [go_sem], by simp [go_sem], by simp [go_sem]⟩
section
variable {w w' : World} {g : Nat} {x0 x1 x2 x3 x4 x5 : Value}
theorem SixAt.far {F : Nat → Prop} (h : SixAt w g x0 x1 x2 x3 x4 x5) (k : Far F w w') (hg : ¬ F g) : SixAt w' g x0 x1 x2 x3 x4 x5 := by
  have l := h.lt
  exact ⟨Nat.lt_of_lt_of_le l k.size, (k.cell (p := ⟨g, 0, none⟩) l hg).trans h.c0, (k.cell (p := ⟨g, 1, none⟩) l hg).trans h.c1, (k.cell (p := ⟨g, 2, none⟩) l hg).trans h.c2, (k.cell (p := ⟨g, 3, none⟩) l hg).trans h.c3, (k.cell (p := ⟨g, 4, none⟩) l hg).trans h.c4, (k.cell (p := ⟨g, 5, none⟩) l hg).trans h.c5, (k.frozen (p := ⟨g, 4, none⟩) l hg).trans h.f4, (k.frozen (p := ⟨g, 5, none⟩) l hg).trans h.f5⟩
theorem SixAt.put4 (h : SixAt w g x0 x1 x2 x3 x4 x5) (u : Value) : SixAt (w.setCell ⟨g, 4, none⟩ u) g x0 x1 x2 x3 u x5 := by
  obtain ⟨l, c0, c1, c2, c3, c4, c5, f4, f5⟩ := h
  exact ⟨by simpa [World.setCell] using l, (World.cell?_setCell_other _ _ _ _ (ne_off (by omega))).trans c0, (World.cell?_setCell_other _ _ _ _ (ne_off (by omega))).trans c1, (World.cell?_setCell_other _ _ _ _ (ne_off (by omega))).trans c2, (World.cell?_setCell_other _ _ _ _ (ne_off (by omega))).trans c3, World.cell?_setCell_same _ _ _ c4, (World.cell?_setCell_other _ _ _ _ (ne_off (by omega))).trans c5, by simpa [go_sem] using f4, by simpa [go_sem] using f5⟩
theorem SixAt.put5 (h : SixAt w g x0 x1 x2 x3 x4 x5) (u : Value) : SixAt (w.setCell ⟨g, 5, none⟩ u) g x0 x1 x2 x3 x4 u := by
  obtain ⟨l, c0, c1, c2, c3, c4, c5, f4, f5⟩ := h
  exact ⟨by simpa [World.setCell] using l, (World.cell?_setCell_other _ _ _ _ (ne_off (by omega))).trans c0, (World.cell?_setCell_other _ _ _ _ (ne_off (by omega))).trans c1, (World.cell?_setCell_other _ _ _ _ (ne_off (by omega))).trans c2, (World.cell?_setCell_other _ _ _ _ (ne_off (by omega))).trans c3, (World.cell?_setCell_other _ _ _ _ (ne_off (by omega))).trans c4, World.cell?_setCell_same _ _ _ c5, by simpa [go_sem] using f4, by simpa [go_sem] using f5⟩
end
theorem FlyIn.six {K : Nat → Prop} {w : World} {h : Nat} {r : DRow} {v : Value} (H : FlyIn K w h r v) : SixAt w h v (.int .u8 (r.c.wait : Nat)) (.int .u8 (r.c.cls : Nat)) (.int .u8 (r.c.id : Nat)) (.int .i64 (r.many : Nat)) (.int .i64 r.sent) :=
  ⟨H.cmd.lt, H.cmd.c0, H.cmd.c1, H.cmd.c2, H.cmd.c3, H.c4, H.c5, H.f4, H.f5⟩
/-- Six cells of which the bytes lie in K: one in flight. -/
theorem FlyIn.of_six {K : Nat → Prop} {w : World} {h : Nat} {r : DRow} {v : Value} (s : SixAt w h v (.int .u8 (r.c.wait : Nat)) (.int .u8 (r.c.cls : Nat)) (.int .u8 (r.c.id : Nat)) (.int .i64 (r.many : Nat)) (.int .i64 r.sent))
    (hr : Row .u8 w v r.c.b) (kc : r.c.wait < 256 ∧ r.c.cls < 256 ∧ r.c.id < 256) (km : r.many ≤ 50) (ks : -9223372036854775808 ≤ r.sent ∧ r.sent ≤ 9223372036854775807) (may : mayCmd r.c) (ob : ∀ b, v.ownBlock = some b → K b) (nk : ¬ K h) : FlyIn K w h r v :=
  ⟨⟨s.lt, s.c0, s.c1, s.c2, s.c3, hr, kc.1, kc.2.1, kc.2.2⟩, s.c4, s.c5, s.f4, s.f5, km, ks, may, ob, nk⟩
section
variable {K : Nat → Prop} {w w' : World} {g : Nat} {L L' : Value} {fl fl' : Option (Nat × DRow)} {W W' : List Cmd} {dn ls dn' ls' : Nat} {now now' tmo : Int} {tries : Nat}
theorem PrgAt.seven (h : PrgAt K w g L fl W dn ls now tmo tries) : SevenAt w g (.int .i64 tmo) (.int .i64 (tries : Nat)) L (flyV fl) (.int .i64 (dn : Nat)) (.int .i64 (ls : Nat)) (.int .i64 now) :=
  ⟨h.lt, h.c0, h.c1, h.c2, h.c3, h.c4, h.c5, h.c6, h.f2, h.f3, h.f4, h.f5, h.f6⟩
/-- The same one, of which something was written. -/
theorem PrgAt.remake (h : PrgAt K w g L fl W dn ls now tmo tries) (hz : w.heap.size ≤ w'.heap.size) (s : SevenAt w' g (.int .i64 tmo) (.int .i64 (tries : Nat)) L' (flyV fl') (.int .i64 (dn' : Nat)) (.int .i64 (ls' : Nat)) (.int .i64 now'))
    (hl : CmdsAt K w' L' W') (lb : ∀ b, L'.ownBlock = some b → K b) (ll : W'.length ≤ 50) (may : ∀ c ∈ W', mayCmd c) (hf : ∀ x r, fl' = some (x, r) → x ≠ g ∧ ∃ v, FlyIn K w' x r v) (kd : dn' ≤ 50 ∧ ls' ≤ 50) (kn : -9223372036854775808 ≤ now' ∧ now' ≤ 9223372036854775807) : PrgAt K w' g L' fl' W' dn' ls' now' tmo tries :=
  ⟨s.lt, s.c0, s.c1, s.c2, s.c3, s.c4, s.c5, s.c6, s.f2, s.f3, s.f4, s.f5, s.f6, hl, lb, ll, may, hf, h.ng, fun b hb => Nat.lt_of_lt_of_le (h.kb b hb) hz, kd, kn, h.kt, h.kr⟩
/-- Its counter, or what is in flight, is another one; the list stays. -/
theorem PrgAt.turn (h : PrgAt K w g L fl W dn ls now tmo tries) {F : Nat → Prop} (k : Far F w w') (hF : ∀ b, F b → ¬ K b) (s : SevenAt w' g (.int .i64 tmo) (.int .i64 (tries : Nat)) L (flyV fl') (.int .i64 (dn' : Nat)) (.int .i64 (ls' : Nat)) (.int .i64 now'))
    (hf : ∀ x r, fl' = some (x, r) → x ≠ g ∧ ∃ v, FlyIn K w' x r v) (kd : dn' ≤ 50 ∧ ls' ≤ 50) (kn : -9223372036854775808 ≤ now' ∧ now' ≤ 9223372036854775807) : PrgAt K w' g L fl' W dn' ls' now' tmo tries :=
  h.remake k.size s (h.list.farP k (fun c hc => (h.may c hc).1) (fun b e q => hF b q (h.lb b e)) (fun b hb q => hF b q hb)) h.lb h.ll h.may hf kd kn
/-- Of the one in flight alone something was written. -/
theorem PrgAt.flew {x : Nat} {r r' : DRow} (h : PrgAt K w g L (some (x, r)) W dn ls now tmo tries) (k : Far (fun b => b = x) w w') (hf : ∃ v, FlyIn K w' x r' v) : PrgAt K w' g L (some (x, r')) W dn ls now tmo tries := by
  obtain ⟨hn, v, hv⟩ := h.fly x r rfl
  exact h.turn k (fun b hb e => hv.nk (by rw [← show b = x from hb]; exact e)) (h.seven.far k (fun e => hn e.symm)) (fun y q e => by cases e; exact ⟨hn, hf⟩) h.kd h.kn
end
end Go.Proofs.YtcdmbnbanopioaaGreatDoor

namespace Go.Proofs.YtcdmbnbanopioaaGreatDoor
open Go.RowKit
set_option linter.unusedVariables false

/- The program's dialogue: a command is sent; the next one is sent. -/
theorem own_litP {B : Nat} (w : World) (E : TypeId) (hB : B ≤ w.heap.size) : Own B E .u8 (w.alloc (.cells #[] E)) (.slice (some ⟨w.heap.size, 0, none⟩) 0 0) [] := Own.lit w .u8 E B hB [] (by decide)
theorem Grew.pushP {w0 w w' : World} {B : Nat} {E : TypeId} {k : IntKind} {v : Value} {ns : List Nat} (g : Grew w0 w) (h : Own B E k w v ns) (hB : w0.heap.size ≤ B) (hg : w.grownBy w' v.ownBlock) : Grew w0 w' :=
  Below.grown g hg g.size (fun b hb => Nat.le_trans hB (World.ownsRow.lt h b hb).1)
theorem Own.baseP {B B' : Nat} {E : TypeId} {k : IntKind} {w : World} {v : Value} {ns : List Nat} (h : Own B E k w v ns) (hB : B' ≤ B) : Own B' E k w v ns := by
  obtain ⟨h1, h2⟩ := h
  refine ⟨h1, ?_⟩
  rcases h2 with h2 | ⟨b, cap, cur, e, hb, hh, r⟩
  · exact .inl h2
  · exact .inr ⟨b, cap, cur, e, Nat.le_trans hB hb, hh, r⟩
-- [CLONE
set_option maxRecDepth 100000 in
set_option maxHeartbeats 2000000 in
theorem prg_clone (w : World) (v : Value) (S : List Nat) (hr : Row .u8 w v S) (hp : 0 < S.length) (hl : S.length ≤ 100000) :
    Calls Tryz.prog 37 #[v] w fun e w' => ∃ fv, e = .returned fv ∧ Own w.heap.size 5 .u8 w' fv S ∧ Grew w w' := by
  have HR := Lib.hid hr
  obtain ⟨A, c, rfl, hc, hrow⟩ := hr
  obtain ⟨b, o, rfl, hb, hcell⟩ := hrow hp
  have hpi : (0 : Int) < S.length := by omega
  have hV0 := own_litP (B := w.heap.size) w 5 (Nat.le_refl _)
  have gE := (Grew.refl w).alloc (.cells #[] 5)
  have hRV := HR.out.grew gE
  have HV0 := Lib.hid hV0
  have GE := Lib.hid gE
  have HRV := Lib.hid hRV
  clear hcell hrow hV0 gE hRV
  have hq := Lib.run_eql_slice_nil (P := Tryz.prog) w 25 5 (some ⟨b, o, none⟩) S.length c 0 0 Tryz.underlying25
  go_enter Tryz.func37, Tryz.ntmps37
  go_wp2_with (refine wpList_joinN _ rfl _ _ 25 rfl w.heap.size 5 .u8 1 Tryz.underlying25 infoU8 (.slice (some ⟨w.heap.size, 0, none⟩) 0 0) [] rfl HV0.out (.slice (some ⟨b, o, none⟩) S.length c) S rfl HRV.out (by simp only [List.length_nil]; omega) (by decide) (by simp) ?_; intro v2 w2 hown2 hgrow2 hnil2)
  go_wp2_with fail
  go_ret
  exact ⟨v2, rfl, by rw [List.nil_append] at hown2; exact hown2, Grew.pushP GE.out HV0.out (Nat.le_refl _) hgrow2⟩
-- CLONE]
section
variable {K : Nat → Prop} {g : Nat} {L : Value} {W : List Cmd} {dn ls : Nat} {now tmo : Int} {tries : Nat}
-- [SEND
set_option maxRecDepth 100000 in
set_option maxHeartbeats 4000000 in
theorem prg_send {x : Nat} {r : DRow} (w : World) (h : PrgAt K w g L (some (x, r)) W dn ls now tmo tries) (hm : r.many < 50) :
    Calls Tryz.prog 41 #[.pointer (some ⟨g, 0, none⟩)] w fun e w' => ∃ fv, e = .returned fv ∧ PrgAt K w' g L (some (x, ⟨r.c, r.st, now, r.many + 1⟩)) W dn ls now tmo tries ∧ Far (fun b => b = x) w w' ∧ Own w.heap.size 5 .u8 w' fv r.c.b := by
  obtain ⟨hn, v, hv⟩ := h.fly x r rfl
  have HH := Lib.hid h
  have lt := h.lt
  have c3 := h.c3
  have c6 := h.c6
  have s6 := hv.six
  unfold flyV at c3
  simp only at c3
  have e1 : IntKind.i64.wrap ((r.many : Int) + 1) = (r.many : Int) + 1 := IntWalk.i64_in _ (by omega)
  have F1 := Far.one w ⟨x, 4, none⟩ (.int .i64 ((r.many : Int) + 1))
  have t4 := s6.put4 (.int .i64 ((r.many : Int) + 1))
  have u3 := (F1.cell (p := ⟨g, 3, none⟩) lt (fun e => hn e.symm)).trans c3
  have u6 := (F1.cell (p := ⟨g, 6, none⟩) lt (fun e => hn e.symm)).trans c6
  have lt1 := Nat.lt_of_lt_of_le lt F1.size
  have HV := Lib.hid hv
  clear hv h
  obtain ⟨lx, d0, d1, d2, d3, d4, d5, g4, g5⟩ := s6
  go_enter Tryz.func41, Tryz.ntmps41
  go_upto_region 2 with fail
  generalize w.setCell ⟨x, 4, none⟩ (.int .i64 ((r.many : Int) + 1)) = w1 at F1 t4 u3 u6 lt1 ⊢
  clear lt c3 c6 lx d0 d1 d2 d3 d4 d5 g4 g5
  have T4 := Lib.hid t4
  obtain ⟨lx, d0, d1, d2, d3, d4, d5, g4, g5⟩ := t4
  go_region
  have F2 := ((F1.setCell (p := ⟨x, 5, none⟩) rfl (.int .i64 now)).trans (Far.of_grew (F := fun k => k = x) (Grew.refl _).drew))
  have t5 := ((T4.out.put5 (.int .i64 now)).far (Far.of_grew (F := fun _ => False) (Grew.refl _).drew) (fun q => q))
  generalize (w1.setCell ⟨x, 5, none⟩ (.int .i64 now)).drew = w2 at F2 t5 ⊢
  have hk : ∀ b, v.ownBlock = some b → ¬ b = x := fun b e q => HV.out.nk (by rw [← q]; exact HV.out.ob b e)
  have hrow := HV.out.cmd.row.far F2 (fun b e q => hk b e q)
  have hfly : FlyIn K w2 x ⟨r.c, r.st, now, r.many + 1⟩ v := .of_six (by rw [show ((r.many + 1 : Nat) : Int) = (r.many : Int) + 1 by omega]; exact t5) hrow ⟨HV.out.cmd.kw, HV.out.cmd.kc, HV.out.cmd.ki⟩ (by show r.many + 1 ≤ 50; omega) HH.out.kn HV.out.may HV.out.ob HV.out.nk
  have HP := Lib.hid (HH.out.flew F2 ⟨v, hfly⟩)
  have may := HV.out.may
  have HC := Lib.hid (prg_clone w2 v r.c.b hrow may.1 (by have := may.2.1; omega))
  have FF := Lib.hid F2
  have z3 := (HP.out).c3
  unfold flyV at z3
  simp only at z3
  have lt2 := HP.out.lt
  obtain ⟨ly, y0, _⟩ := t5
  clear F1 F2 T4 lx d0 d1 d2 d3 d4 d5 g4 g5 u3 u6 lt1 hfly hrow hk
  go_wp2_with (go_at_call 37; refine HC.out.mono ?_; rintro e w3 ⟨fv, rfl, ho, g3⟩)
  go_ret
  exact ⟨fv, rfl, HP.out.grew g3, FF.out.trans (Far.of_grew g3), ho.baseP FF.out.size⟩
-- SEND]
end
/-- The list from its second command on. -/
theorem CmdsAt.tail {X : Nat → Prop} {w : World} {b o n cap : Nat} {c : Cmd} {W : List Cmd} (h : CmdsAt X w (.slice (some ⟨b, o, none⟩) n cap) (c :: W)) (o2 : Nat) (ho : o2 = if cap = 1 then o else o + 4) :
    CmdsAt X w (.slice (some ⟨b, o2, none⟩) (n - 1) (cap - 1)) W := by
  obtain ⟨A, cc, e, hc, hr⟩ := h
  simp only [Value.slice.injEq, List.length_cons] at e hc
  obtain ⟨rfl, rfl, rfl⟩ := e
  refine ⟨_, _, by rw [show W.length + 1 - 1 = W.length by omega], by omega, fun hn => ?_⟩
  obtain ⟨b', o', e, hf⟩ := hr (by simp)
  cases e
  rw [if_neg (by omega)] at ho
  refine ⟨b, o2, rfl, fun i q hi => ?_⟩
  obtain ⟨fv, h1, h2⟩ := hf (i + 1) q (by simpa using hi)
  rw [show o + (i + 1) * 4 = o2 + i * 4 by omega] at h1
  exact ⟨fv, h1, h2⟩
/-- What a send of the next one tells. -/
def SendNT (K : Nat → Prop) (g : Nat) (L : Value) (W : List Cmd) (dn ls : Nat) (now tmo : Int) (tries : Nat) (w : World) (e : Ending) (w' : World) : Prop :=
  match W with
  | [] => e = .returned (.tuple #[.slice none 0 0, .bool false]) ∧ Grew w w'
  | c :: W' => ∃ fv L', e = .returned (.tuple #[fv, .bool true]) ∧ Far (fun b => b = g) w w' ∧ Own w.heap.size 5 .u8 w' fv c.b ∧
      (c.wait = 0 → PrgAt K w' g L' none W' (dn + 1) ls now tmo tries) ∧
      (c.wait ≠ 0 → ∃ x, w.heap.size ≤ x ∧ (∀ b, fv.ownBlock = some b → b ≠ x) ∧ PrgAt K w' g L' (some (x, ⟨c, 1, now, 1⟩)) W' dn ls now tmo tries)
section
variable {K : Nat → Prop} {g : Nat} {L : Value} {W : List Cmd} {dn ls : Nat} {now tmo : Int} {tries : Nat}
-- [NEXT
set_option maxRecDepth 100000 in
set_option maxHeartbeats 4000000 in
theorem prg_sendNext (w : World) (h : PrgAt K w g L none W dn ls now tmo tries) (hd : dn < 50) :
    Calls Tryz.prog 39 #[.pointer (some ⟨g, 0, none⟩)] w (SendNT K g L W dn ls now tmo tries w) := by
  have HH := Lib.hid h
  have lt := h.lt
  have c2 := h.c2
  have c3 := h.c3
  have f3 := h.f3
  have f2 := h.f2
  unfold flyV at c3
  cases W with
  | nil =>
    obtain ⟨A, c, rfl, hc, _⟩ := h.list
    clear h
    simp only [List.length_nil] at c2 hc ⊢
    go_enter Tryz.func39, Tryz.ntmps39
    go_wp2_with fail
    exact bodyPost_ret (by simp [results, Tryz.results39, go_sem]; try rfl) rfl ⟨rfl, Grew.refl _⟩
  | cons q W' =>
    obtain ⟨A, c, rfl, hc, hr⟩ := h.list
    obtain ⟨b, o, rfl, hcell⟩ := hr (by simp)
    obtain ⟨fv, hq, hX⟩ := hcell 0 q rfl
    have may := h.may q (by simp)
    have ll := h.ll
    have HQ := Lib.hid hq
    have hXf : ∀ b, fv.ownBlock = some b → K b := hX may.1
    have hKb := h.lb b rfl
    have HKg := Lib.hid (show ∀ b, K b → b ≠ g from fun b hb e => h.ng (e ▸ hb))
    obtain ⟨o2, ho2⟩ : ∃ o2, o2 = if c = 1 then o else o + 4 := ⟨_, rfl⟩
    have HT := Lib.hid (h.list.tail o2 ho2)
    have q0 := hq.c0
    have q1 := hq.c1
    have q2 := hq.c2
    have q3 := hq.c3
    have lb := hq.lt
    simp only [Nat.zero_mul, Nat.add_zero] at q0 q1 q2 q3
    obtain ⟨Af, cf, efv, hcf, _⟩ := hq.row
    simp only [List.length_cons] at c2 hc ll
    have hpos : (0 : Int) < (W'.length : Int) + 1 := by omega
    have hne : ¬ ((W'.length : Int) + 1) = 0 := by omega
    subst efv
    clear h hr hcell hq hX
    go_enter Tryz.func39, Tryz.ntmps39
    go_upto_region 4 with fail
    go_upto_region 5 with fail
    have eL : (if c = 1 then some (⟨b, o, none⟩ : Addr) else some ⟨b, o + 4, none⟩) = some ⟨b, o2, none⟩ := by rw [ho2]; split <;> rfl
    rw [eL]
    obtain ⟨Lq, hLq⟩ : ∃ Lq, Value.slice (some ⟨b, o2, none⟩) W'.length (c - 1) = Lq := ⟨_, rfl⟩
    have hLb : ∀ k, Lq.ownBlock = some k → K k := by
      intro k e
      rw [← hLq] at e
      simp [Value.ownBlock] at e
      rw [← e]; exact hKb
    rw [show (q :: W').length - 1 = W'.length from rfl, hLq] at HT
    rw [hLq]
    have s7 := (HH.out.seven.put3 (.pointer (some ⟨w.heap.size, 0, none⟩))).put2 Lq
    have F2 := (Far.one w ⟨g, 3, none⟩ (.pointer (some ⟨w.heap.size, 0, none⟩))).setCell (p := ⟨g, 2, none⟩) rfl Lq
    have z2 : ((w.setCell ⟨g, 3, none⟩ (.pointer (some ⟨w.heap.size, 0, none⟩))).setCell ⟨g, 2, none⟩ Lq).heap.size = w.heap.size := by simp [World.setCell]
    generalize (w.setCell ⟨g, 3, none⟩ (.pointer (some ⟨w.heap.size, 0, none⟩))).setCell ⟨g, 2, none⟩ Lq = w2 at s7 F2 z2 ⊢
    obtain ⟨W4, hW4, g4, T4⟩ := six_newP w2 (.slice Af q.b.length cf) (.int .u8 (q.wait : Nat)) (.int .u8 (q.cls : Nat)) (.int .u8 (q.id : Nat)) (.int .i64 0) (.int .i64 0) 70
    rw [hW4]
    rw [z2] at T4
    clear hW4
    have F4 := F2.trans (Far.of_grew (F := fun k => k = g) g4)
    have s8 := s7.far (Far.of_grew (F := fun _ => False) g4) (fun q => q)
    have hrow := HQ.out.row.far F4 (fun k e => HKg.out k (hXf k e))
    have hfly : FlyIn K W4 w.heap.size ⟨q, 1, 0, 0⟩ (.slice Af q.b.length cf) := .of_six T4 hrow ⟨HQ.out.kw, HQ.out.kc, HQ.out.ki⟩ (show (0 : Nat) ≤ 50 by decide) (show -9223372036854775808 ≤ (0 : Int) ∧ (0 : Int) ≤ 9223372036854775807 by decide) may hXf (fun e => Nat.lt_irrefl _ (HH.out.kb _ e))
    have HP : PrgAt K W4 g Lq (some (w.heap.size, ⟨q, 1, 0, 0⟩)) W' dn ls now tmo tries :=
      HH.out.remake F4.size s8 (HT.out.farP F4 (fun x hx => (HH.out.may x (by simp [hx])).1) (fun k e => HKg.out k (hLb k e)) HKg.out) hLb (by omega) (fun x hx => HH.out.may x (by simp [hx])) (fun x r e => by cases e; exact ⟨fun e => by omega, _, hfly⟩) HH.out.kd HH.out.kn
    have HS := Lib.hid (prg_send W4 HP (show (0 : Nat) < 50 by decide))
    have FF := Lib.hid F4
    have hz4 : w.heap.size < W4.heap.size := T4.lt
    clear HP hfly hrow s8 F4 s7 F2 z2 g4 T4 q0 q1 q2 q3 c2 c3 f2 f3 lb lt
    go_upto_region 6 with (go_at_call 41; refine HS.out.mono ?_; rintro e w5 ⟨gv, rfl, hP5, hF5, hO5⟩)
    have H5 := Lib.hid hP5
    have F6 := Lib.hid ((FF.out.beyond hF5 (fun x hx => .inr (by rw [show x = w.heap.size from hx]; exact Nat.le_refl _))))
    have O5 := Lib.hid (hO5.baseP (Nat.le_of_lt hz4))
    have hgv : ∀ k, gv.ownBlock = some k → k ≠ w.heap.size := fun k e q => by have := (hO5.lt k e).1; omega
    obtain ⟨_, v5, hv5⟩ := hP5.fly _ _ rfl
    have c3 := hP5.c3
    have lt := hP5.lt
    have f3 := hP5.f3
    have f4 := hP5.f4
    have c4 := hP5.c4
    have s6 := hv5.cmd.c1
    have lx := hv5.cmd.lt
    unfold flyV at c3
    simp only [Nat.zero_add] at c3 s6
    have HGV := Lib.hid hgv
    clear hP5 hF5 hO5 hv5 HS hgv
    by_cases hw0 : q.wait = 0
    · rw [hw0] at s6
      have e1 : IntKind.i64.wrap ((dn : Int) + 1) = (dn : Int) + 1 := IntWalk.i64_in _ (by omega)
      go_wp2_with fail
      refine bodyPost_ret (by simp [results, Tryz.results39, go_sem]; try rfl) rfl ?_
      have sA := (H5.out.seven.put3 (.pointer none)).put4 (.int .i64 ((dn : Int) + 1))
      have FA := (Far.one w5 ⟨g, 3, none⟩ (.pointer none)).setCell (p := ⟨g, 4, none⟩) rfl (.int .i64 ((dn : Int) + 1))
      have hO := O5.out.far FA (fun k e q => by have := (O5.out.lt k e).1; have := HH.out.lt; have : k = g := q; omega)
      exact ⟨gv, Lq, rfl, F6.out.trans FA, hO, fun _ => H5.out.turn FA (fun x hx e => HKg.out x e hx) (by rw [show ((dn + 1 : Nat) : Int) = (dn : Int) + 1 by omega]; exact sA) (fun x r e => by cases e) ⟨by omega, H5.out.kd.2⟩ H5.out.kn, fun e => absurd hw0 e⟩
    · have hw1 : ¬ (q.wait : Int) = 0 := by omega
      go_wp2_with fail
      refine bodyPost_ret (by simp [results, Tryz.results39, go_sem]; try rfl) rfl ?_
      exact ⟨gv, Lq, rfl, F6.out, O5.out, fun e => absurd e hw0, fun _ => ⟨w.heap.size, Nat.le_refl _, HGV.out, H5.out⟩⟩
-- NEXT]
end
/- The program's dialogue: a tick. -/
def ownSet (g : Nat) (fl : Option (Nat × DRow)) : Nat → Prop := fun b => b = g ∨ ∃ r, fl = some (b, r)
theorem ownSet_none {g : Nat} (b : Nat) (h : ownSet g none b) : b = g := by
  rcases h with q | ⟨r, q⟩
  · exact q
  · cases q
def TickT (K : Nat → Prop) (g : Nat) (F : Nat → Prop) (d : Dlg) (y : Option (List Nat)) (w : World) (e : Ending) (w' : World) : Prop :=
  ∃ F' fv, e = .returned (.tuple #[fv, .bool y.isSome]) ∧ PrgR K w' (.pointer (some ⟨g, 0, none⟩)) F' d ∧ Far F w w' ∧ (∀ b, F' b → F b ∨ w.heap.size ≤ b) ∧ Own 0 5 .u8 w' fv (y.getD []) ∧ ∀ b, fv.ownBlock = some b → w.heap.size ≤ b ∧ ¬ F' b
theorem TickT.behind {K : Nat → Prop} {g : Nat} {F G : Nat → Prop} {d : Dlg} {y : Option (List Nat)} {w w1 w' : World} {e : Ending} (h : TickT K g F d y w1 e w') (k : Far G w w1) (hF : ∀ b, F b → G b) : TickT K g G d y w e w' := by
  obtain ⟨F', fv, h1, h2, h3, h4, h5, h6⟩ := h
  refine ⟨F', fv, h1, h2, k.trans (h3.mono (fun b _ q => hF b q)), fun b q => ?_, h5, fun b q => ⟨Nat.le_trans k.size (h6 b q).1, (h6 b q).2⟩⟩
  rcases h4 b q with q | q
  · exact .inl (hF b q)
  · exact .inr (Nat.le_trans k.size q)
theorem next_R {K : Nat → Prop} {g : Nat} {L : Value} {E W : List DRow} {N tmo : Int} {tries : Nat} {w w' : World} {e : Ending} (he : ∀ r ∈ E, 2 ≤ r.st) (hw : Fresh W)
    (h : SendNT K g L (W.map DRow.c) (doneOf E) (lostOf E) N tmo tries w e w') (H : PrgAt K w g L none (W.map DRow.c) (doneOf E) (lostOf E) N tmo tries) :
    TickT K g (fun b => b = g) ⟨E ++ (sendL N W).1, tmo, tries, N, true⟩ (sendL N W).2 w e w' := by
  cases W with
  | nil =>
    obtain ⟨rfl, hg⟩ := h
    exact ⟨ownSet g none, _, rfl, ⟨g, L, none, E, [], rfl, fun b => Iff.rfl, ⟨by simp [sendL], he, fun r e => (by cases e), hw⟩, H.grew hg⟩, Far.of_grew hg, fun b q => .inl (ownSet_none b q), Own.nil _ _ _ _, fun b e => by simp [Value.ownBlock] at e⟩
  | cons q W' =>
    obtain ⟨fv, L', rfl, hF, hO, h0, h1⟩ := h
    rw [send_new hw]
    have hg := H.lt
    by_cases hq : q.c.wait = 0
    · obtain ⟨hp, c1, c2⟩ := Parts.sent_done he hw N hq
      refine ⟨ownSet g none, fv, rfl, ⟨g, L', none, E ++ [sentOf N q], W', rfl, fun b => Iff.rfl, hp, ?_⟩, hF, fun b q => .inl (ownSet_none b q), hO.baseP (Nat.zero_le _), fun b e => ⟨(hO.lt b e).1, fun q => ?_⟩⟩
      · rw [c1, c2]; exact h0 hq
      · rcases q with q | ⟨r, q⟩
        · have := (hO.lt b e).1; omega
        · cases q
    · obtain ⟨hs, hp⟩ := Parts.sent_fly he hw N hq
      obtain ⟨x, hx, hb, hP⟩ := h1 hq
      refine ⟨ownSet g (some (x, ⟨q.c, 1, N, 1⟩)), fv, rfl, ⟨g, L', some (x, ⟨q.c, 1, N, 1⟩), E, W', rfl, fun b => Iff.rfl, hp, hP⟩, hF, fun b q => ?_, hO.baseP (Nat.zero_le _), fun b e => ⟨(hO.lt b e).1, fun q => ?_⟩⟩
      · rcases q with q | ⟨r, q⟩
        · exact .inl q
        · cases q; exact .inr hx
      · rcases q with q | ⟨r, q⟩
        · have := (hO.lt b e).1; omega
        · cases q; exact hb _ e rfl
theorem PrgAt.clocked {K : Nat → Prop} {w : World} {g : Nat} {L : Value} {fl : Option (Nat × DRow)} {W : List Cmd} {dn ls : Nat} {now tmo : Int} {tries : Nat} (h : PrgAt K w g L fl W dn ls now tmo tries) (N : Int) (hN : -9223372036854775808 ≤ N ∧ N ≤ 9223372036854775807) :
    PrgAt K (w.setCell ⟨g, 6, none⟩ (.int .i64 N)) g L fl W dn ls N tmo tries ∧ Far (fun b => b = g) w (w.setCell ⟨g, 6, none⟩ (.int .i64 N)) := by
  have F := Far.one w ⟨g, 6, none⟩ (.int .i64 N)
  have hK : ∀ b, K b → ¬ b = g := fun b hb e => h.ng (e ▸ hb)
  exact ⟨h.turn F (fun b hb e => hK b e hb) (h.seven.put6 _) (fun x r e => by obtain ⟨n, v, hv⟩ := h.fly x r e; exact ⟨n, v, hv.far F n hK⟩) h.kd hN, F⟩
theorem PrgAt.lost {K : Nat → Prop} {w : World} {g : Nat} {L : Value} {fl : Option (Nat × DRow)} {W : List Cmd} {dn ls : Nat} {now tmo : Int} {tries : Nat} (h : PrgAt K w g L fl W dn ls now tmo tries) (hl : ls < 50) :
    PrgAt K ((w.setCell ⟨g, 3, none⟩ (.pointer none)).setCell ⟨g, 5, none⟩ (.int .i64 ((ls : Int) + 1))) g L none W dn (ls + 1) now tmo tries ∧ Far (fun b => b = g) w ((w.setCell ⟨g, 3, none⟩ (.pointer none)).setCell ⟨g, 5, none⟩ (.int .i64 ((ls : Int) + 1))) := by
  have F := (Far.one w ⟨g, 3, none⟩ (.pointer none)).setCell (p := ⟨g, 5, none⟩) rfl (.int .i64 ((ls : Int) + 1))
  have hK : ∀ b, K b → ¬ b = g := fun b hb e => h.ng (e ▸ hb)
  exact ⟨h.turn F (fun b hb e => hK b e hb) (by rw [show ((ls + 1 : Nat) : Int) = (ls : Int) + 1 by omega]; exact (h.seven.put3 (.pointer none)).put5 _) (fun x r e => by cases e) ⟨h.kd.1, by omega⟩ h.kn, F⟩
-- [TICK
set_option maxRecDepth 100000 in
set_option maxHeartbeats 8000000 in
theorem prg_Tick (K : Nat → Prop) (w : World) (v : Value) (F : Nat → Prop) (d : Dlg) (t : Int) (hR : PrgR K w v F d) (hok : DlgOk d) (ht : -9223372036854775808 ≤ t ∧ t ≤ 9223372036854775807) :
    Calls Tryz.prog 17 #[v, .int .i64 t] w fun e w' => ∃ F' fv, e = .returned (.tuple #[fv, .bool (d.tick t).2.isSome]) ∧ PrgR K w' v F' (d.tick t).1 ∧ Far F w w' ∧ (∀ b, F' b → F b ∨ w.heap.size ≤ b) ∧ Own 0 5 .u8 w' fv ((d.tick t).2.getD []) ∧ ∀ b, fv.ownBlock = some b → w.heap.size ≤ b ∧ ¬ F' b := by
  obtain ⟨g, L, fl, E, W, rfl, hF, hp, H⟩ := hR
  show Calls _ _ _ _ (TickT K g F (d.tick t).1 (d.tick t).2 w)
  have hkl := hok.kl
  have hEl : E.length + W.length ≤ 16 := by rw [hp.eq] at hkl; simp only [List.length_append] at hkl; omega
  have hdE := done_le E
  have hlE := lost_le E
  have hFg : ∀ b, b = g → F b := fun b e => (hF b).2 (.inl e)
  obtain ⟨N, hN⟩ : ∃ N, d.at t = N := ⟨_, rfl⟩
  have hNb : -9223372036854775808 ≤ N ∧ N ≤ 9223372036854775807 := by
    rw [← hN]
    unfold Dlg.at
    split
    · exact ht
    · exact hok.kn
  have hS := hok.at_ t
  obtain ⟨m, hm⟩ : ∃ m, (if d.came then d.now else -9223372036854775808) = m := ⟨_, rfl⟩
  have hmx : (if m < t then t else m) = N := by
    rw [← hm, ← hN]
    unfold Dlg.at
    cases hc : d.came with
    | false => simp; omega
    | true => simp
  rw [hN] at hS
  rw [hm] at H
  have hTK : d.tick t = (⟨(tickL N d.tmo d.tries d.rows).1, d.tmo, d.tries, N, true⟩, (tickL N d.tmo d.tries d.rows).2) := by unfold Dlg.tick; rw [hN]
  rw [hTK]
  obtain ⟨HC, F1⟩ := H.clocked N hNb
  have HM := Lib.hid (prg_isMade w g d.tmo H.lt H.c0 (by have := H.kt; omega))
  have lt := H.lt
  have c6 := H.c6
  have f6 := H.f6
  have HMX := Lib.hid hmx
  have HT := Lib.hid ht
  clear hTK hok hmx hm hN
  go_enter Tryz.func17, Tryz.ntmps17
  go_upto_region 3 with (go_at_call 38; refine HM.out.mono ?_; rintro e w1 ⟨rfl, hw1⟩; subst hw1)
  go_upto_region 4 with fail
  rw [HMX.out]
  generalize w.setCell ⟨g, 6, none⟩ (.int .i64 N) = w1 at HC F1 ⊢
  have F1' := Lib.hid F1
  have HH := Lib.hid HC
  clear lt c6 f6 H HM F1 HMX
  have lt := HC.lt
  have c3 := HC.c3
  unfold flyV at c3
  have FX := Lib.hid (F1'.out.mono (G := F) (fun k _ q => hFg k q))
  cases fl with
  | none =>
    have htk := Lib.hid (hp.tick_none N d.tmo d.tries)
    simp only at c3
    have hend := hp.ends
    have hnew := hp.new
    have HN := Lib.hid (prg_sendNext w1 HC (by omega))
    clear HC hS hp
    go_upto_region 5 with fail
    go_wp2_with (go_at_call 39; refine HN.out.mono ?_; intro e w2 h2; have hR := (next_R hend hnew h2 HH.out).behind FX.out hFg; obtain ⟨F', fv, rfl, h1⟩ := hR)
    refine bodyPost_ret (by simp [results, Tryz.results17, go_sem]; try rfl) rfl ?_
    rw [htk.out]
    exact ⟨F', fv, rfl, h1⟩
  | some xr =>
    obtain ⟨x, r⟩ := xr
    simp only at c3
    have hend := hp.ends
    have hnew := hp.new
    have hr1 := (hp.fly r rfl).1
    rw [hp.eq] at hS
    obtain ⟨hmt, hsn⟩ := Parts.sound_fly hS hend hr1
    have HL := Lib.hid (prg_isLate HC hsn)
    obtain ⟨hxg, v6, hv6⟩ := HC.fly x r rfl
    have d4 := hv6.c4
    have lx := hv6.cmd.lt
    have kr := HC.kr
    have c1 := HC.c1
    have HP := Lib.hid hp
    have hFx : F x := (hF x).2 (.inr ⟨r, rfl⟩)
    clear HC hS hv6 hp
    by_cases hy : N - r.sent < d.tmo
    · have htk := Lib.hid (HP.out.tick_young N d.tmo d.tries hy)
      have hb : decide (d.tmo ≤ N - r.sent) = false := decide_eq_false (by omega)
      rw [hb] at HL
      go_wp2_with (go_at_call 40; refine HL.out.mono ?_; rintro e w2 ⟨rfl, g2⟩)
      refine bodyPost_ret (by simp [results, Tryz.results17, go_sem]; try rfl) rfl ?_
      rw [htk.out]
      exact ⟨F, _, rfl, ⟨g, L, some (x, r), E, W, rfl, hF, HP.out, HH.out.grew g2⟩, FX.out.trans (Far.of_grew g2), fun b q => .inl q, Own.nil _ _ _ _, fun b e => by simp [Value.ownBlock] at e⟩
    · have hb : decide (d.tmo ≤ N - r.sent) = true := decide_eq_true (by omega)
      rw [hb] at HL
      have HKK := Lib.hid (fun w' (G : Grew w1 w') => (⟨Nat.lt_of_lt_of_le lt G.size, Nat.lt_of_lt_of_le lx G.size, (G.cell (p := ⟨g, 3, none⟩) lt).trans c3, (G.cell (p := ⟨g, 1, none⟩) lt).trans c1, (G.cell (p := ⟨x, 4, none⟩) lx).trans d4⟩ : g < w'.heap.size ∧ x < w'.heap.size ∧ w'.cell? ⟨g, 3, none⟩ = some (.pointer (some ⟨x, 0, none⟩)) ∧ w'.cell? ⟨g, 1, none⟩ = some (.int .i64 (d.tries : Nat)) ∧ w'.cell? ⟨x, 4, none⟩ = some (.int .i64 (r.many : Nat))))
      by_cases hm : r.many < d.tries
      · have htk := Lib.hid (HP.out.tick_again N d.tmo d.tries hy hm)
        have hmi : (r.many : Int) < d.tries := by omega
        clear d4 c1
        go_upto_region 8 with (go_at_call 40; refine HL.out.mono ?_; rintro e w2 ⟨rfl, g2⟩; clear c3; obtain ⟨l1, l2, c3, c1, d4⟩ := HKK.out _ g2)
        go_quiet (fail)
        have g3 := g2.drewN nq
        generalize w2.drewN nq = w3 at g3 ⊢
        have HS := Lib.hid (prg_send w3 (HH.out.grew g3) (by omega))
        clear c3 c1 d4
        go_wp2_with (go_at_call 41; refine HS.out.mono ?_; rintro e w4 ⟨fv, rfl, hP4, hF4, hO4⟩)
        refine bodyPost_ret (by simp [results, Tryz.results17, go_sem]; try rfl) rfl ?_
        rw [htk.out]
        obtain ⟨es, hpp⟩ := HP.out.again_fly N
        refine ⟨F, fv, rfl, ⟨g, L, some (x, ⟨r.c, 1, N, r.many + 1⟩), E, W, rfl, fun b => ?_, hpp, by rw [hr1] at hP4; exact hP4⟩, (FX.out.trans (Far.of_grew g3)).trans (hF4.mono (fun b _ q => by rw [show b = x from q]; exact hFx)), fun b q => .inl q, hO4.baseP (Nat.zero_le _), fun b e => ?_⟩
        · rw [hF]
          constructor
          · rintro (q | ⟨r', q⟩)
            · exact .inl q
            · cases q; exact .inr ⟨_, rfl⟩
          · rintro (q | ⟨r', q⟩)
            · exact .inl q
            · cases q; exact .inr ⟨_, rfl⟩
        · have h4 := (hO4.lt b e).1
          have := F1'.out.size
          have := g3.size
          refine ⟨by omega, fun q => ?_⟩
          rcases (hF b).1 q with q | ⟨r', q⟩
          · omega
          · cases q; omega
      · have htk := Lib.hid (HP.out.tick_lost N d.tmo d.tries hy hm)
        have hmi : ¬ (r.many : Int) < d.tries := by omega
        clear d4 c1
        go_upto_region 8 with (go_at_call 40; refine HL.out.mono ?_; rintro e w2 ⟨rfl, g2⟩; clear c3; obtain ⟨l1, l2, c3, c1, d4⟩ := HKK.out _ g2)
        go_quiet (fail)
        have g3 := g2.drewN nq
        generalize w2.drewN nq = w3 at g3 ⊢
        have H3 := HH.out.grew g3
        have u3 := H3.c3
        have v3 := H3.f3
        have u5 := H3.c5
        have v5 := H3.f5
        have l3 := H3.lt
        unfold flyV at u3
        simp only at u3
        have e1 : IntKind.i64.wrap ((lostOf E : Int) + 1) = (lostOf E : Int) + 1 := IntWalk.i64_in _ (by omega)
        obtain ⟨H5, F5⟩ := H3.lost (by omega)
        clear c3 c1 d4 H3
        go_upto_region 12 with fail
        generalize (w3.setCell ⟨g, 3, none⟩ (.pointer none)).setCell ⟨g, 5, none⟩ (.int .i64 ((lostOf E : Int) + 1)) = w5 at H5 F5 ⊢
        obtain ⟨dn2, ls2⟩ := turned_lost E r
        have H6 : PrgAt K w5 g L none (W.map DRow.c) (doneOf (E ++ [turnedOf 3 r])) (lostOf (E ++ [turnedOf 3 r])) N d.tmo d.tries := by rw [dn2, ls2]; exact H5
        have HN := Lib.hid (prg_sendNext w5 H6 (by rw [dn2]; omega))
        have FF := Lib.hid (((FX.out.trans (Far.of_grew g3)).trans (F5.mono (fun b _ q => hFg b q))))
        have HE := Lib.hid H6
        clear u3 v3 u5 v5 l3 H5 H6 F5 g3
        go_wp2_with (go_at_call 39; refine HN.out.mono ?_; intro e w6 h6; have hR := (next_R (ends_more hend (show 2 ≤ 3 by decide)) hnew h6 HE.out).behind FF.out hFg; obtain ⟨F', fv, rfl, h1⟩ := hR)
        refine bodyPost_ret (by simp [results, Tryz.results17, go_sem]; try rfl) rfl ?_
        rw [htk.out]
        exact ⟨F', fv, rfl, h1⟩
-- TICK]
/- The program's dialogue: a copy; calls of one that is not there. -/
theorem PrgAt.other {K : Nat → Prop} {w w' : World} {g p : Nat} {L : Value} {fl fl' : Option (Nat × DRow)} {W : List Cmd} {dn ls : Nat} {now tmo : Int} {tries : Nat} (h : PrgAt K w g L fl W dn ls now tmo tries) (k : Grew w w') (s : SevenAt w' p (.int .i64 tmo) (.int .i64 (tries : Nat)) L (flyV fl') (.int .i64 (dn : Nat)) (.int .i64 (ls : Nat)) (.int .i64 now))
    (hp : ¬ K p) (hf : ∀ x r, fl' = some (x, r) → x ≠ p ∧ ∃ v, FlyIn K w' x r v) : PrgAt K w' p L fl' W dn ls now tmo tries :=
  ⟨s.lt, s.c0, s.c1, s.c2, s.c3, s.c4, s.c5, s.c6, s.f2, s.f3, s.f4, s.f5, s.f6, (h.grew k).list, h.lb, h.ll, h.may, hf, hp, (h.grew k).kb, h.kd, h.kn, h.kt, h.kr⟩
-- [COPY
set_option maxRecDepth 100000 in
set_option maxHeartbeats 4000000 in
theorem prg_Tick_none (w : World) (t : Int) (ht : -9223372036854775808 ≤ t ∧ t ≤ 9223372036854775807) : Calls Tryz.prog 17 #[.pointer none, .int .i64 t] w fun e w' => ∃ A c, e = .returned (.tuple #[.slice A 0 c, .bool false]) ∧ Grew w w' := by
  have HM := Lib.hid (prg_isMade_none w)
  go_enter Tryz.func17, Tryz.ntmps17
  go_wp2_with (go_at_call 38; refine HM.out.mono ?_; rintro e w1 ⟨rfl, hw1⟩; subst hw1)
  refine bodyPost_ret (by simp [results, Tryz.results17, go_sem]; try rfl) rfl ?_
  exact ⟨none, 0, rfl, Grew.refl _⟩
set_option maxRecDepth 100000 in
set_option maxHeartbeats 4000000 in
theorem prg_Frame_none (w : World) : Calls Tryz.prog 18 #[.pointer none, .agg #[.int .u8 0, .slice none 0 0]] w fun e w' => e = .returned (.bool false) ∧ Grew w w' := by
  have HM := fun w => Lib.hid (prg_Flying_none w)
  have gA := (Grew.refl w).alloc (.cells #[.int .u8 0, .slice none 0 0] 49)
  go_enter Tryz.func18, Tryz.ntmps18
  go_wp2_with (go_at_call 20; refine (HM _).out.mono ?_; rintro e w1 ⟨rfl, hw1⟩; subst hw1)
  go_ret
  exact ⟨rfl, gA⟩
-- NONE]
end Go.Proofs.YtcdmbnbanopioaaGreatDoor

namespace Go.Proofs.YtcdmbnbanopioaaGreatDoor
open Go.RowKit
set_option linter.unusedVariables false

theorem key_equal (w : World) (a b c d : Nat) : (Op.equal 109 (.agg #[.int .u8 (a : Nat), .int .u8 (b : Nat)]) (.agg #[.int .u8 (c : Nat), .int .u8 (d : Nat)])).run Tryz.prog w = .ok (a == c && b == d) w := by
  unfold Op.equal Op.maxDepth
  by_cases h1 : a = c
  · subst h1
    by_cases h2 : b = d
    · subst h2
      go_simp
    · have h2' : ¬ (b : Int) = d := by omega
      go_simp
  · have h1' : ¬ (a : Int) = c := by omega
    go_simp
theorem key_checkB (w : World) (em : Bool) (n : Nat) (x : Int) : (Instr.checkKey em (n + 1) 5 (.int .u8 x)).run Tryz.prog w = .ok () w := by
  unfold Instr.checkKey
  go_simp
theorem key_check (w : World) (em : Bool) (a b : Nat) : (Instr.checkKey em 10000 109 (.agg #[.int .u8 (a : Nat), .int .u8 (b : Nat)])).run Tryz.prog w = .ok () w := by
  have h := fun w x => key_checkB w em 9998 x
  unfold Instr.checkKey
  go_simp
theorem key_under : Tryz.prog.underlying 109 = some (.struct (Tryz.prog.fieldsOf 109)) := by kernel_rfl
theorem map_under : Tryz.prog.underlying 106 = some (.map 109 104) := by kernel_rfl
/-- A key. -/
def keyV (a b : Nat) : Value := .agg #[.int .u8 (a : Nat), .int .u8 (b : Nat)]
theorem ask_none (w : World) (a b : Nat) : ∀ (es : List MapEntry) (i : Nat), (∀ e ∈ es, ∃ c d : Nat, e.key = keyV c d ∧ (a == c && b == d) = false) → (Instr.findAsking 109 (keyV a b) es i).run Tryz.prog w = .ok none w
  | [], _, _ => rfl
  | e :: es, i, h => by
    obtain ⟨c, d, h1, h2⟩ := h e (by simp)
    have ih := ask_none w a b es (i + 1) (fun e he => h e (by simp [he]))
    simp only [Instr.findAsking, h1, keyV, Sem.run_bind, key_equal, h2, Result.andThen_ok, Bool.false_eq_true, if_false]
    exact ih
theorem ask_some (w : World) (a b : Nat) : ∀ (es : List MapEntry) (i : Nat), (∀ e ∈ es, ∃ c d : Nat, e.key = keyV c d) → (∃ e ∈ es, e.key = keyV a b) → ∃ e ∈ es, e.key = keyV a b ∧ ∃ j, (Instr.findAsking 109 (keyV a b) es i).run Tryz.prog w = .ok (some (j, e.val)) w
  | [], _, _, h => by obtain ⟨e, he, _⟩ := h; simp at he
  | e :: es, i, h, hx => by
    obtain ⟨c, d, h1⟩ := h e (by simp)
    by_cases q : (a == c && b == d) = true
    · have q2 := q
      simp only [Bool.and_eq_true, beq_iff_eq] at q2
      obtain ⟨rfl, rfl⟩ := q2
      refine ⟨e, by simp, h1, i, ?_⟩
      simp only [Instr.findAsking, h1, keyV, Sem.run_bind, key_equal, q, Result.andThen_ok, if_true, Sem.run_pure]
    · have q' : (a == c && b == d) = false := by simpa using q
      obtain ⟨e', he', h2, j, hr⟩ := ask_some w a b es (i + 1) (fun e he => h e (by simp [he])) (by
        obtain ⟨x, hx1, hx2⟩ := hx
        rcases List.mem_cons.1 hx1 with rfl | hx1
        · exfalso
          rw [h1] at hx2
          simp [keyV] at hx2
          obtain ⟨z1, z2⟩ := hx2
          exact q (by obtain rfl : c = a := by omega
                      obtain rfl : d = b := by omega
                      simp)
        · exact ⟨x, hx1, hx2⟩)
      refine ⟨e', by simp [he'], h2, j, ?_⟩
      simp only [Instr.findAsking, h1, keyV, Sem.run_bind, key_equal, q', Result.andThen_ok, Bool.false_eq_true, if_false]
      exact hr
theorem find_ask (w : World) (a b : Nat) (es : List MapEntry) (h : ∀ e ∈ es, ∃ c d : Nat, e.key = keyV c d) : (Instr.findKey 109 (keyV a b) es).run Tryz.prog w = (Instr.findAsking 109 (keyV a b) es).run Tryz.prog w := by
  cases es with
  | nil => simp only [Instr.findKey, Sem.run_bind, run_underlying key_under, Result.andThen_ok, Instr.findNow, Instr.findAsking]
  | cons e es =>
    obtain ⟨c, d, h1⟩ := h e (by simp)
    simp only [Instr.findKey, Sem.run_bind, run_underlying key_under, Result.andThen_ok, Instr.findNow, h1, keyV, Instr.sameNow]
/-- An entry is laid whose key is none of the map's. -/
theorem run_insert (w : World) (m a b : Nat) (es : Array MapEntry) (clk : Nat) (v : Value) (hm : w.heap[m]? = some (.map es clk)) (h : ∀ e ∈ es.toList, ∃ c d : Nat, e.key = keyV c d ∧ (a == c && b == d) = false) :
    (Instr.mapUpdate 106 (.map (some m)) (keyV a b) v).run Tryz.prog w = .ok () (Go.ChangeMaps.setBlock w m (.map (es.push { key := keyV a b, val := v, born := clk }) (clk + 1))) := by
  have hc := key_check w false a b
  have hf : (Instr.findKey 109 (keyV a b) es.toList).run Tryz.prog w = .ok none w := by
    rw [find_ask w a b _ (fun e he => by obtain ⟨c, d, h1, _⟩ := h e he; exact ⟨c, d, h1⟩)]
    exact ask_none w a b _ 0 h
  unfold Instr.mapUpdate
  simp only [Sem.run_bind, run_underlying map_under, Result.andThen_ok, MapKept.run_getObj_map hm, show (Instr.checkKey false 10000 109 (keyV a b)).run Tryz.prog w = .ok () w from hc, hf, MapKept.run_setObj_map _ hm]
  rfl
/-- A key that the map has; one that it has not. -/
theorem run_hit (w : World) (m a b : Nat) (es : Array MapEntry) (clk : Nat) (hm : w.heap[m]? = some (.map es clk)) (h : ∀ e ∈ es.toList, ∃ c d : Nat, e.key = keyV c d) (hx : ∃ e ∈ es.toList, e.key = keyV a b) :
    ∃ e ∈ es.toList, e.key = keyV a b ∧ (Instr.lookup 106 (.map (some m)) (keyV a b) true).run Tryz.prog w = .ok (.tuple #[e.val, .bool true]) w := by
  have hc := key_check w es.isEmpty a b
  obtain ⟨e, he, hk, j, hr⟩ := ask_some w a b es.toList 0 h hx
  rw [← find_ask w a b _ h] at hr
  refine ⟨e, he, hk, ?_⟩
  unfold Instr.lookup
  simp only [Sem.run_bind, run_underlying map_under, Result.andThen_ok, MapKept.run_getObj_map hm, Sem.run_pure, show (Instr.checkKey es.isEmpty 10000 109 (keyV a b)).run Tryz.prog w = .ok () w from hc, hr]
  rfl
theorem run_miss (w : World) (m a b : Nat) (es : Array MapEntry) (clk : Nat) (hm : w.heap[m]? = some (.map es clk)) (h : ∀ e ∈ es.toList, ∃ c d : Nat, e.key = keyV c d ∧ (a == c && b == d) = false) :
    (Instr.lookup 106 (.map (some m)) (keyV a b) true).run Tryz.prog w = .ok (.tuple #[.agg #[.int .i64 0, .slice none 0 0], .bool false]) w := by
  have hc := key_check w es.isEmpty a b
  have hf : (Instr.findKey 109 (keyV a b) es.toList).run Tryz.prog w = .ok none w := by
    rw [find_ask w a b _ (fun e he => by obtain ⟨c, d, h1, _⟩ := h e he; exact ⟨c, d, h1⟩)]
    exact ask_none w a b _ 0 h
  have hz : (zeroValue 104).run Tryz.prog w = .ok (.agg #[.int .i64 0, .slice none 0 0]) w := by go_simp
  unfold Instr.lookup
  simp only [Sem.run_bind, run_underlying map_under, Result.andThen_ok, MapKept.run_getObj_map hm, Sem.run_pure, show (Instr.checkKey es.isEmpty 10000 109 (keyV a b)).run Tryz.prog w = .ok () w from hc, hf, hz]
  rfl
/-- Kinds of places of their own, of keys of their own. -/
structure KGood (K : List KRow) : Prop where
  at_ : K.Pairwise fun x y => x.at_ ≠ y.at_
  key : K.Pairwise fun x y => (x.a == y.a && x.b == y.b) = false
theorem pair_inj {α : Type} {R : α → α → Prop} : ∀ {K : List α}, K.Pairwise R → ∀ {x y : α}, x ∈ K → y ∈ K → x = y ∨ R x y ∨ R y x
  | [], _, _, _, h, _ => by simp at h
  | z :: K, h, x, y, hx, hy => by
    obtain ⟨h1, h2⟩ := List.pairwise_cons.1 h
    rcases List.mem_cons.1 hx with ex | hx'
    · rcases List.mem_cons.1 hy with ey | hy'
      · exact .inl (ex.trans ey.symm)
      · exact .inr (.inl (ex ▸ h1 y hy'))
    · rcases List.mem_cons.1 hy with ey | hy'
      · exact .inr (.inr (ey ▸ h1 x hx'))
      · exact pair_inj h2 hx' hy'
theorem KGood.one {K : List KRow} (h : KGood K) {x y : KRow} (hx : x ∈ K) (hy : y ∈ K) (e : x.at_ = y.at_) : x = y := by
  rcases pair_inj h.at_ hx hy with q | q | q
  · exact q
  · exact absurd e q
  · exact absurd e.symm q
theorem KGood.unlike {K : List KRow} (h : KGood K) {x y : KRow} (hx : x ∈ K) (hy : y ∈ K) (e : x ≠ y) : (x.a == y.a && x.b == y.b) = false := by
  rcases pair_inj h.key hx hy with q | q | q
  · exact absurd q e
  · exact q
  · rw [← q, show (x.a == y.a) = (y.a == x.a) from Bool.beq_comm, show (x.b == y.b) = (y.b == x.b) from Bool.beq_comm]
theorem km_insert {Q : Exit → Act → World → Prop} {o : Oper} {a : Act} {w W : World} {E : TypeId} {K : List KRow} {L : Nat → Bool} {ops : Array Oper} {sh : Nat → KShape} {i : Nat} {tm tk tv : Tmp} {k : KRow}
    (hK : KGood K) (hk : k ∈ K) (hi : k.at_ = i) (hdst : o.dst = none) (hop : o.op = .insert 106 (.tmp tm) (.tmp tk) (.tmp tv)) (hL : L i = false)
    (hd : ∀ j d, L j = true → writes ops j d = true → KLeft E W K L (sh j) w (a.tmps[d]?.getD undef)) (hc : ∀ j k, L j = true → waitsAt ops j k = true → L k = true) (g : Grew W w)
    (hmaps : ((List.range ops.size).all fun j => (match sh j with | .inr (.inr (.inr _)) => j == 0 || waitsAt ops j i | _ => true)) = true) (h0 : sh 0 = .inr (.inr (.inr ()))) (hw0 : writes ops 0 tm = true)
    (hm : KLeft E W K L (.inr (.inr (.inr ()))) w (a.tmps[tm]?.getD undef)) (ek : a.tmps[tk]?.getD undef = keyV k.a k.b) (ev : KLeft E W K L (.inr (.inr (.inl (k.len, k.cs)))) w (a.tmps[tv]?.getD undef)) :
    o.wp Tryz.prog a w (fun a' w' => ∃ v, a' = a.put o.dst v ∧ (∀ d, o.dst = some d → KLeft E W K (also L i) (sh i) w' v) ∧ (∀ j d, L j = true → writes ops j d = true → KLeft E W K (also L i) (sh j) w' (a.tmps[d]?.getD undef)) ∧ Grew W w') Q := by
  obtain ⟨m, em, hWm, es, clk, hb, h1, h2⟩ := hm
  obtain ⟨b, n, evv, hn, hcs⟩ := ev
  have hkeys : ∀ e ∈ es.toList, ∃ c d : Nat, e.key = keyV c d ∧ (k.a == c && k.b == d) = false := fun e he => by
    obtain ⟨k', hk', hl, hx, _⟩ := h1 e he
    refine ⟨k'.a, k'.b, hx, hK.unlike hk hk' (fun q => ?_)⟩
    subst q
    rw [hi, hL] at hl
    cases hl
  have hrun := run_insert w m k.a k.b es clk (a.tmps[tv]?.getD undef) hb hkeys
  obtain ⟨w1, hw1⟩ : ∃ w1, Go.ChangeMaps.setBlock w m (.map (es.push { key := keyV k.a k.b, val := a.tmps[tv]?.getD undef, born := clk }) (clk + 1)) = w1 := ⟨_, rfl⟩
  have hnew : w1.heap[m]? = some (.map (es.push { key := keyV k.a k.b, val := a.tmps[tv]?.getD undef, born := clk }) (clk + 1)) := by rw [← hw1]; exact Go.ChangeMaps.heap_setBlock_same hb _
  have hgb : w.grownBy w1 (some m) := by
    rw [← hw1]
    exact ⟨rfl, rfl, rfl, by simp [Go.ChangeMaps.setBlock], fun i _ hi => Go.ChangeMaps.heap_setBlock_other hb _ (fun e => hi (by rw [e]))⟩
  have hkept : KKept w w1 := fun b' cs E' fr h => by
    have hne : b' ≠ m := fun e => by subst e; rw [hb] at h; cases h
    exact (hgb.block b' (Array.getElem?_eq_some_iff.1 h).1 (fun e => hne (by simpa using e))).trans h
  have hG : Grew W w1 := Below.grown g hgb g.size (fun b' hb' => by simp at hb'; subst hb'; exact hWm)
  rw [hw1] at hrun
  have hmap : KMap E W K (also L i) w1 m := by
    refine ⟨hWm, _, _, hnew, fun e he => ?_, fun k' hk' hl => ?_⟩
    · simp only [Array.toList_push, List.mem_append, List.mem_singleton] at he
      rcases he with he | rfl
      · obtain ⟨k', hk', hl, hx⟩ := h1 e he
        exact ⟨k', hk', by unfold also; rw [hl, Bool.or_true], hx.kept hkept⟩
      · exact ⟨k, hk, by unfold also; rw [hi]; simp, rfl, b, n, evv, hn, hkept _ _ _ _ hcs⟩
    · by_cases e : k'.at_ = i
      · obtain rfl := hK.one hk' hk (e.trans hi.symm)
        exact ⟨_, by simp only [Array.toList_push, List.mem_append, List.mem_singleton]; exact .inr rfl, rfl, b, n, evv, hn, hkept _ _ _ _ hcs⟩
      · rw [also_ne e] at hl
        obtain ⟨e', he', hx⟩ := h2 k' hk' hl
        exact ⟨e', by simp only [Array.toList_push, List.mem_append]; exact .inl he', hx.kept hkept⟩
  have hrest : ∀ j d, L j = true → writes ops j d = true → KLeft E W K (also L i) (sh j) w1 (a.tmps[d]?.getD undef) := fun j d hl hw => by
    have hx := hd j d hl hw
    have hjs : j < ops.size := by
      unfold writes at hw
      split at hw
      · cases hw
      · exact (Array.getElem?_eq_some_iff.1 ‹_›).1
    have hmj := List.all_eq_true.1 hmaps j (List.mem_range.2 hjs)
    cases hs : sh j with
    | inl x => rw [hs] at hx; exact hx
    | inr s =>
      cases s with
      | inl cs => rw [hs] at hx; obtain ⟨b, n, q1, q2, q3⟩ := hx; exact ⟨b, n, q1, q2, hkept _ _ _ _ q3⟩
      | inr s =>
        cases s with
        | inl p => rw [hs] at hx; obtain ⟨b, n, q1, q2, q3⟩ := hx; exact ⟨b, n, q1, q2, hkept _ _ _ _ q3⟩
        | inr u =>
          rw [hs] at hmj
          simp only [Bool.or_eq_true, beq_iff_eq] at hmj
          rcases hmj with rfl | hmj
          · have : d = tm := by
              unfold writes at hw hw0
              cases hq : ops[0]? with
              | none => rw [hq] at hw; cases hw
              | some p =>
                rw [hq] at hw hw0
                simp only [beq_iff_eq] at hw hw0
                exact Option.some.inj (hw.symm.trans hw0)
            subst this
            exact ⟨m, em, hmap⟩
          · have := hc j i hl hmj
            rw [hL] at this
            cases this
  have hex : (execOp a.eval o).run Tryz.prog w = .ok .skip w1 := by
    have e1 : a.eval (.tmp tm) = .map (some m) := by simpa [go_sem] using em
    have e2 : a.eval (.tmp tk) = keyV k.a k.b := by simpa [go_sem] using ek
    have e3 : a.eval (.tmp tv) = a.tmps[tv]?.getD undef := by simp [go_sem]
    simp [execOp, hop, e1, e2, e3, hrun, Result.andThen]
  unfold Oper.wp
  rw [hex]
  refine ⟨undef, ?_, fun d hd' => (by rw [hdst] at hd'; cases hd'), hrest, hG⟩
  rw [hdst]
  try rfl
end Go.Proofs.YtcdmbnbanopioaaGreatDoor

