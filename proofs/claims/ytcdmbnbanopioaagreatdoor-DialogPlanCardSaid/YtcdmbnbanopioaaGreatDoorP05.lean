/-
  The program's table of SiRF kinds: a map keyed by a byte: an entry laid, an entry found.
  A region in its own order that fills a map: each operation is run once, whatever has come up ahead of it (XLocM's steps).
  The program's table of SiRF kinds: the map that sirf.kinds makes, in whatever order its entries come up.
  The program's table of SiRF kinds: a kind looked up.
  The program's SiRF fields: a value read out of a payload, a value written in one, highest byte first.
  The document's SiRF messages: a payload written.
-/
import Derived.Test.YtcdmbnbanopioaaGreatDoorP03
import Derived.Test.YtcdmbnbanopioaaGreatDoorP02
import Derived.LoopTactic
import Derived.Deep.LoopGhost
import Derived.StillTailTactics
import Derived.Deep.QuietTactic
import Derived.BigQuiet
import Derived.ChangeMaps5
import Derived.Deep.CutBlock
import Derived.Deep.DeepCutAuto
import Derived.Test.YtcdmbnbanopioaaGreatDoorP04
import Derived.OwnWalk

namespace Go.Proofs.YtcdmbnbanopioaaGreatDoor
open Go.RowKit
set_option linter.unusedVariables false

/-- An entry of the map: a kind's. -/
def SEntry (E : TypeId) (w : World) (k : KRow) (e : MapEntry) : Prop :=
  e.key = .int .u8 (k.a : Nat) ∧ ∃ b n, e.val = .agg #[.int .i64 (k.len : Nat), .slice (some ⟨b, 0, none⟩) n n] ∧ n = k.cs.length / 3 ∧ w.heap[b]? = some (.cells k.cs.toArray E)
def SMap (E : TypeId) (W : World) (K : List KRow) (L : Nat → Bool) (w : World) (m : Nat) : Prop :=
  W.heap.size ≤ m ∧ ∃ es clk, w.heap[m]? = some (.map es clk) ∧ (∀ e ∈ es.toList, ∃ k ∈ K, L k.at_ = true ∧ SEntry E w k e) ∧ (∀ k ∈ K, L k.at_ = true → ∃ e ∈ es.toList, SEntry E w k e)
def SLeft (E : TypeId) (W : World) (K : List KRow) (L : Nat → Bool) (s : KShape) (w : World) (v : Value) : Prop :=
  match s with
  | .inl x => v = x
  | .inr (.inl cs) => ∃ b n, v = .slice (some ⟨b, 0, none⟩) n n ∧ n = cs.length / 3 ∧ w.heap[b]? = some (.cells cs.toArray E)
  | .inr (.inr (.inl p)) => ∃ b n, v = .agg #[.int .i64 (p.1 : Nat), .slice (some ⟨b, 0, none⟩) n n] ∧ n = p.2.length / 3 ∧ w.heap[b]? = some (.cells p.2.toArray E)
  | .inr (.inr (.inr _)) => ∃ m, v = .map (some m) ∧ SMap E W K L w m
theorem SEntry.kept {E : TypeId} {w w' : World} {k : KRow} {e : MapEntry} (h : SEntry E w k e) (g : KKept w w') : SEntry E w' k e := by
  obtain ⟨h1, b, n, h2, h3, h4⟩ := h
  exact ⟨h1, b, n, h2, h3, g _ _ _ _ h4⟩
theorem SMap.also {E : TypeId} {W : World} {K : List KRow} {L : Nat → Bool} {w w' : World} {m i : Nat} (h : SMap E W K L w m) (g : Grew w w') (hi : ∀ k ∈ K, k.at_ ≠ i) : SMap E W K (also L i) w' m := by
  obtain ⟨h0, es, clk, h1, h2, h3⟩ := h
  refine ⟨h0, es, clk, (Below.block g m (Array.getElem?_eq_some_iff.1 h1).1).trans h1, fun e he => ?_, fun k hk hl => ?_⟩
  · obtain ⟨k, hk, hl, he⟩ := h2 e he
    exact ⟨k, hk, by rw [also_ne (hi k hk)]; exact hl, he.kept (.of_grew g)⟩
  · rw [also_ne (hi k hk)] at hl
    obtain ⟨e, he, hx⟩ := h3 k hk hl
    exact ⟨e, he, hx.kept (.of_grew g)⟩
theorem SLeft.also {E : TypeId} {W : World} {K : List KRow} {L : Nat → Bool} {s : KShape} {w w' : World} {v : Value} {i : Nat} (h : SLeft E W K L s w v) (g : Grew w w') (hi : ∀ k ∈ K, k.at_ ≠ i) : SLeft E W K (also L i) s w' v := by
  rcases s with x | cs | p | u
  · exact h
  · obtain ⟨b, n, h1, h2, h3⟩ := h
    exact ⟨b, n, h1, h2, KKept.of_grew g _ _ _ _ h3⟩
  · obtain ⟨b, n, h1, h2, h3⟩ := h
    exact ⟨b, n, h1, h2, KKept.of_grew g _ _ _ _ h3⟩
  · obtain ⟨m, h1, h2⟩ := h
    exact ⟨m, h1, h2.also g hi⟩

section
variable {P : Program} {Q : Exit → Act → World → Prop} {o : Oper} {a : Act} {w w1 W : World} {E : TypeId} {K : List KRow} {L : Nat → Bool} {ops : Array Oper} {sh : Nat → KShape} {i : Nat}
theorem sm_of (hd : ∀ j d, L j = true → writes ops j d = true → SLeft E W K L (sh j) w (a.tmps[d]?.getD undef)) (g : Grew W w) (hi : K.all (fun k => k.at_ != i) = true)
    (h : o.wp P a w (fun a' w'' => ∃ v, a' = a.put o.dst v ∧ SLeft E W K (also L i) (sh i) w'' v ∧ Grew w w'') Q) :
    o.wp P a w (fun a' w' => ∃ v, a' = a.put o.dst v ∧ (∀ d, o.dst = some d → SLeft E W K (also L i) (sh i) w' v) ∧ (∀ j d, L j = true → writes ops j d = true → SLeft E W K (also L i) (sh j) w' (a.tmps[d]?.getD undef)) ∧ Grew W w') Q :=
  Oper.wp_mono (fun a' w' ⟨v, h1, h2, h3⟩ => ⟨v, h1, fun _ _ => h2, fun j d hl hw => (hd j d hl hw).also h3 (fun k hk => by have := List.all_eq_true.1 hi k hk; simpa using this), g.trans h3⟩) h
end
theorem byte_under : Tryz.prog.underlying 5 = some (.int .u8) := by kernel_rfl
theorem smap_under : Tryz.prog.underlying 122 = some (.map 5 120) := by kernel_rfl
theorem byte_key (a : Nat) : MapKept.IsKey (.int .u8) (.int .u8 (a : Nat)) := by simp [MapKept.IsKey]
theorem skey_ne {a b : Nat} (h : a ≠ b) : ¬ (Value.int .u8 (a : Nat)) = .int .u8 (b : Nat) := by
  intro e
  simp at e
  omega
/-- An entry is laid whose key is none of the map's. -/
theorem srun_insert (w : World) (m a : Nat) (es : Array MapEntry) (clk : Nat) (v : Value) (hm : w.heap[m]? = some (.map es clk)) (h : ∀ e ∈ es.toList, ∃ c : Nat, e.key = .int .u8 (c : Nat) ∧ a ≠ c) :
    (Instr.mapUpdate 122 (.map (some m)) (.int .u8 (a : Nat)) v).run Tryz.prog w = .ok () (Go.ChangeMaps.setBlock w m (.map (es.push { key := .int .u8 (a : Nat), val := v, born := clk }) (clk + 1))) := by
  have hks : ∀ x ∈ es.toList, MapKept.IsKey (.int .u8) x.key := fun x hx => by obtain ⟨c, e, _⟩ := h x hx; rw [e]; exact byte_key c
  rcases MapKept.findNow_spec (byte_key a) es.toList 0 hks with ⟨h1, _⟩ | ⟨j, e, _, h2, h3⟩
  · unfold Instr.mapUpdate
    simp only [Sem.run_bind, run_underlying smap_under, Result.andThen_ok, MapKept.run_getObj_map hm, MapKept.run_checkKey byte_under (byte_key a), MapKept.run_findKey byte_under h1, MapKept.run_setObj_map _ hm]
    rfl
  · exfalso
    obtain ⟨c, e1, e2⟩ := h e (List.mem_of_getElem? h2)
    exact skey_ne e2 (h3.symm.trans e1)
/-- A key that the map has; one that it has not. -/
theorem srun_hit (w : World) (m a : Nat) (es : Array MapEntry) (clk : Nat) (hm : w.heap[m]? = some (.map es clk)) (h : ∀ e ∈ es.toList, ∃ c : Nat, e.key = .int .u8 (c : Nat)) (hx : ∃ e ∈ es.toList, e.key = .int .u8 (a : Nat)) :
    ∃ e ∈ es.toList, e.key = .int .u8 (a : Nat) ∧ (Instr.lookup 122 (.map (some m)) (.int .u8 (a : Nat)) true).run Tryz.prog w = .ok (.tuple #[e.val, .bool true]) w := by
  have hks : ∀ x ∈ es.toList, MapKept.IsKey (.int .u8) x.key := fun x hx => by obtain ⟨c, e⟩ := h x hx; rw [e]; exact byte_key c
  rcases MapKept.findNow_spec (byte_key a) es.toList 0 hks with ⟨_, h1⟩ | ⟨j, e, h1, h2, h3⟩
  · obtain ⟨e, he, hk⟩ := hx
    exact absurd hk (h1 e he)
  · refine ⟨e, List.mem_of_getElem? h2, h3, ?_⟩
    unfold Instr.lookup
    simp only [Sem.run_bind, run_underlying smap_under, Result.andThen_ok, MapKept.run_getObj_map hm, Sem.run_pure, MapKept.run_checkKey byte_under (byte_key a), MapKept.run_findKey byte_under h1]
    rfl
theorem srun_miss (w : World) (m a : Nat) (es : Array MapEntry) (clk : Nat) (hm : w.heap[m]? = some (.map es clk)) (h : ∀ e ∈ es.toList, ∃ c : Nat, e.key = .int .u8 (c : Nat) ∧ a ≠ c) :
    (Instr.lookup 122 (.map (some m)) (.int .u8 (a : Nat)) true).run Tryz.prog w = .ok (.tuple #[.agg #[.int .i64 0, .slice none 0 0], .bool false]) w := by
  have hks : ∀ x ∈ es.toList, MapKept.IsKey (.int .u8) x.key := fun x hx => by obtain ⟨c, e, _⟩ := h x hx; rw [e]; exact byte_key c
  have hz : (zeroValue 120).run Tryz.prog w = .ok (.agg #[.int .i64 0, .slice none 0 0]) w := by go_simp
  rcases MapKept.findNow_spec (byte_key a) es.toList 0 hks with ⟨h1, _⟩ | ⟨j, e, _, h2, h3⟩
  · unfold Instr.lookup
    simp only [Sem.run_bind, run_underlying smap_under, Result.andThen_ok, MapKept.run_getObj_map hm, Sem.run_pure, MapKept.run_checkKey byte_under (byte_key a), MapKept.run_findKey byte_under h1, hz]
    rfl
  · exfalso
    obtain ⟨c, e1, e2⟩ := h e (List.mem_of_getElem? h2)
    exact skey_ne e2 (h3.symm.trans e1)
/-- Kinds of places of their own, of keys of their own. -/
structure SGood (K : List KRow) : Prop where
  at_ : K.Pairwise fun x y => x.at_ ≠ y.at_
  key : K.Pairwise fun x y => x.a ≠ y.a
theorem spair_inj {α : Type} {R : α → α → Prop} : ∀ {K : List α}, K.Pairwise R → ∀ {x y : α}, x ∈ K → y ∈ K → x = y ∨ R x y ∨ R y x
  | [], _, _, _, h, _ => by simp at h
  | z :: K, h, x, y, hx, hy => by
    obtain ⟨h1, h2⟩ := List.pairwise_cons.1 h
    rcases List.mem_cons.1 hx with ex | hx'
    · rcases List.mem_cons.1 hy with ey | hy'
      · exact .inl (ex.trans ey.symm)
      · exact .inr (.inl (ex ▸ h1 y hy'))
    · rcases List.mem_cons.1 hy with ey | hy'
      · exact .inr (.inr (ey ▸ h1 x hx'))
      · exact spair_inj h2 hx' hy'
theorem SGood.one {K : List KRow} (h : SGood K) {x y : KRow} (hx : x ∈ K) (hy : y ∈ K) (e : x.at_ = y.at_) : x = y := by
  rcases spair_inj h.at_ hx hy with q | q | q
  · exact q
  · exact absurd e q
  · exact absurd e.symm q
theorem SGood.unlike {K : List KRow} (h : SGood K) {x y : KRow} (hx : x ∈ K) (hy : y ∈ K) (e : x ≠ y) : x.a ≠ y.a := by
  rcases spair_inj h.key hx hy with q | q | q
  · exact absurd q e
  · exact q
  · exact q.symm
theorem sm_insert {Q : Exit → Act → World → Prop} {o : Oper} {a : Act} {w W : World} {E : TypeId} {K : List KRow} {L : Nat → Bool} {ops : Array Oper} {sh : Nat → KShape} {i : Nat} {tm tv : Tmp} {k : KRow}
    (hK : SGood K) (hk : k ∈ K) (hi : k.at_ = i) (hdst : o.dst = none) (hop : o.op = .insert 122 (.tmp tm) (.const (.int .u8 (k.a : Nat))) (.tmp tv)) (hL : L i = false)
    (hd : ∀ j d, L j = true → writes ops j d = true → SLeft E W K L (sh j) w (a.tmps[d]?.getD undef)) (hc : ∀ j k, L j = true → waitsAt ops j k = true → L k = true) (g : Grew W w)
    (hmaps : ((List.range ops.size).all fun j => (match sh j with | .inr (.inr (.inr _)) => j == 0 || waitsAt ops j i | _ => true)) = true) (h0 : sh 0 = .inr (.inr (.inr ()))) (hw0 : writes ops 0 tm = true)
    (hm : SLeft E W K L (.inr (.inr (.inr ()))) w (a.tmps[tm]?.getD undef)) (ev : SLeft E W K L (.inr (.inr (.inl (k.len, k.cs)))) w (a.tmps[tv]?.getD undef)) :
    o.wp Tryz.prog a w (fun a' w' => ∃ v, a' = a.put o.dst v ∧ (∀ d, o.dst = some d → SLeft E W K (also L i) (sh i) w' v) ∧ (∀ j d, L j = true → writes ops j d = true → SLeft E W K (also L i) (sh j) w' (a.tmps[d]?.getD undef)) ∧ Grew W w') Q := by
  obtain ⟨m, em, hWm, es, clk, hb, h1, h2⟩ := hm
  obtain ⟨b, n, evv, hn, hcs⟩ := ev
  have hkeys : ∀ e ∈ es.toList, ∃ c : Nat, e.key = .int .u8 (c : Nat) ∧ k.a ≠ c := fun e he => by
    obtain ⟨k', hk', hl, hx, _⟩ := h1 e he
    refine ⟨k'.a, hx, hK.unlike hk hk' (fun q => ?_)⟩
    subst q
    rw [hi, hL] at hl
    cases hl
  have hrun := srun_insert w m k.a es clk (a.tmps[tv]?.getD undef) hb hkeys
  obtain ⟨w1, hw1⟩ : ∃ w1, Go.ChangeMaps.setBlock w m (.map (es.push { key := .int .u8 (k.a : Nat), val := a.tmps[tv]?.getD undef, born := clk }) (clk + 1)) = w1 := ⟨_, rfl⟩
  have hnew : w1.heap[m]? = some (.map (es.push { key := .int .u8 (k.a : Nat), val := a.tmps[tv]?.getD undef, born := clk }) (clk + 1)) := by rw [← hw1]; exact Go.ChangeMaps.heap_setBlock_same hb _
  have hgb : w.grownBy w1 (some m) := by
    rw [← hw1]
    exact ⟨rfl, rfl, rfl, by simp [Go.ChangeMaps.setBlock], fun i _ hi => Go.ChangeMaps.heap_setBlock_other hb _ (fun e => hi (by rw [e]))⟩
  have hkept : KKept w w1 := fun b' cs E' fr h => by
    have hne : b' ≠ m := fun e => by subst e; rw [hb] at h; cases h
    exact (hgb.block b' (Array.getElem?_eq_some_iff.1 h).1 (fun e => hne (by simpa using e))).trans h
  have hG : Grew W w1 := Below.grown g hgb g.size (fun b' hb' => by simp at hb'; subst hb'; exact hWm)
  rw [hw1] at hrun
  have hmap : SMap E W K (also L i) w1 m := by
    refine ⟨hWm, _, _, hnew, fun e he => ?_, fun k' hk' hl => ?_⟩
    · simp only [Array.toList_push, List.mem_append, List.mem_singleton] at he
      rcases he with he | rfl
      · obtain ⟨k', hk', hl, hx⟩ := h1 e he
        exact ⟨k', hk', by unfold also; rw [hl, Bool.or_true], hx.kept hkept⟩
      · exact ⟨k, hk, by unfold also; rw [hi]; simp, rfl, b, n, evv, hn, hkept _ _ _ _ hcs⟩
    · by_cases e : k'.at_ = i
      · obtain rfl := hK.one hk' hk (e.trans hi.symm)
        exact ⟨_, by simp only [Array.toList_push, List.mem_append, List.mem_singleton]; exact .inr rfl, rfl, b, n, evv, hn, hkept _ _ _ _ hcs⟩
      · rw [also_ne e] at hl
        obtain ⟨e', he', hx⟩ := h2 k' hk' hl
        exact ⟨e', by simp only [Array.toList_push, List.mem_append]; exact .inl he', hx.kept hkept⟩
  have hrest : ∀ j d, L j = true → writes ops j d = true → SLeft E W K (also L i) (sh j) w1 (a.tmps[d]?.getD undef) := fun j d hl hw => by
    have hx := hd j d hl hw
    have hjs : j < ops.size := by
      unfold writes at hw
      split at hw
      · cases hw
      · exact (Array.getElem?_eq_some_iff.1 ‹_›).1
    have hmj := List.all_eq_true.1 hmaps j (List.mem_range.2 hjs)
    cases hs : sh j with
    | inl x => rw [hs] at hx; exact hx
    | inr s =>
      cases s with
      | inl cs => rw [hs] at hx; obtain ⟨b, n, q1, q2, q3⟩ := hx; exact ⟨b, n, q1, q2, hkept _ _ _ _ q3⟩
      | inr s =>
        cases s with
        | inl p => rw [hs] at hx; obtain ⟨b, n, q1, q2, q3⟩ := hx; exact ⟨b, n, q1, q2, hkept _ _ _ _ q3⟩
        | inr u =>
          rw [hs] at hmj
          simp only [Bool.or_eq_true, beq_iff_eq] at hmj
          rcases hmj with rfl | hmj
          · have : d = tm := by
              unfold writes at hw hw0
              cases hq : ops[0]? with
              | none => rw [hq] at hw; cases hw
              | some p =>
                rw [hq] at hw hw0
                simp only [beq_iff_eq] at hw hw0
                exact Option.some.inj (hw.symm.trans hw0)
            subst this
            exact ⟨m, em, hmap⟩
          · have := hc j i hl hmj
            rw [hL] at this
            cases this
  have hex : (execOp a.eval o).run Tryz.prog w = .ok .skip w1 := by
    have e1 : a.eval (.tmp tm) = .map (some m) := by simpa [go_sem] using em
    have e2 : a.eval (.const (.int .u8 (k.a : Nat))) = .int .u8 (k.a : Nat) := rfl
    have e3 : a.eval (.tmp tv) = a.tmps[tv]?.getD undef := by simp [go_sem]
    simp [execOp, hop, e1, e2, e3, hrun, Result.andThen]
  unfold Oper.wp
  rw [hex]
  refine ⟨undef, ?_, fun d hd' => (by rw [hdst] at hd'; cases hd'), hrest, hG⟩
  rw [hdst]
  try rfl
end Go.Proofs.YtcdmbnbanopioaaGreatDoor

namespace Go.Proofs.YtcdmbnbanopioaaGreatDoor
open Go.RowKit
set_option linter.unusedVariables false

section
variable {P : Program} {ops : Array Oper} {Q : Exit → Act → World → Prop} {Spec : (Nat → Bool) → Nat → World → Value → Prop} {G : (Nat → Bool) → World → Prop} {a0 : Act}
theorem locm_next {n : Nat} (hB : locmB n ops = true) (hn : a0.tmps.size = n) {listed : Array Bool} {a : Act} {w w' : World} {i : Nat} {o : Oper} {v : Value} (h : LocmInv ops Spec G a0 listed a w) (ho : ops[i]? = some o)
    (hwt : ∀ j, waits o j = true → got listed j = true) (hS : ∀ d, o.dst = some d → Spec (also (got listed) i) i w' v)
    (hO : ∀ j d, got listed j = true → writes ops j d = true → Spec (also (got listed) i) j w' (a.tmps.getD d undef)) (hG : G (also (got listed) i) w') :
    LocmInv ops Spec G a0 (listed.setIfInBounds i true) (a.put o.dst v) w' := by
  have hlt : i < ops.size := (Array.getElem?_eq_some_iff.1 ho).1
  have L := locm_of hB i o ho
  have hls : i < listed.size := by rw [h.size]; exact hlt
  refine ⟨by simpa using h.size, ?_, ?_, ?_, ?_, ?_, by rw [got_set hls]; exact hG⟩
  · cases hd : o.dst <;> exact h.defers
  · cases hd : o.dst with
    | none => exact h.slots
    | some d => simpa [Act.put] using h.slots
  · intro k hk
    cases hd : o.dst with
    | none => exact h.other k hk
    | some d =>
      show (a.tmps.setIfInBounds d v).getD k undef = _
      rw [tmp_set _ _ _ _ (by rw [h.slots, hn]; exact (L.dst d hd).1), if_neg (fun e => freeA_no hk ho (by rw [hd, e]))]
      exact h.other k hk
  · intro j d' hl hd'
    rw [got_set hls] at hl ⊢
    cases hd : o.dst with
    | none =>
      have hj : j ≠ i := fun q => by
        subst q
        unfold writes at hd'
        rw [ho] at hd'
        simp [hd] at hd'
      have hl' : got listed j = true := by simpa [also, hj] using hl
      exact hO j d' hl' hd'
    | some d =>
      show Spec _ j w' ((a.tmps.setIfInBounds d v).getD d' undef)
      rw [tmp_set _ _ _ _ (by rw [h.slots, hn]; exact (L.dst d hd).1)]
      have hd2 := hd'
      unfold writes at hd2
      cases hq : ops[j]? with
      | none => rw [hq] at hd2; cases hd2
      | some p =>
        rw [hq] at hd2
        simp only [beq_iff_eq] at hd2
        by_cases e : d' = d
        · subst e
          rw [if_pos rfl]
          obtain rfl := (L.dst d' hd).2 j p hq hd2
          exact hS d' hd
        · rw [if_neg e]
          have hj : j ≠ i := fun q => by
            subst q
            rw [ho] at hq
            obtain rfl := Option.some.inj hq
            rw [hd] at hd2
            exact e (Option.some.inj hd2).symm
          have hl' : got listed j = true := by simpa [also, hj] using hl
          exact hO j d' hl' hd'
  · intro j k hl hw
    rw [got_set hls] at hl ⊢
    by_cases e : j = i
    · subst e
      have : waits o k = true := by unfold waitsAt at hw; rw [ho] at hw; exact hw
      unfold also
      rw [hwt k this, Bool.or_true]
    · have hl' : got listed j = true := by simpa [also, e] using hl
      unfold also
      rw [h.closed j k hl' hw, Bool.or_true]
theorem locm_list {n : Nat} (hB : locmB n ops = true) (hn : a0.tmps.size = n)
    (step : ∀ (i : Nat) (o : Oper), ops[i]? = some o → LocStepG P ops Spec G a0 Q i o)
    (fin : ∀ (L : Nat → Bool) (a : Act) (w' : World), (∀ k, k < ops.size → L k = true) → a.defers = a0.defers → a.tmps.size = n → (∀ k, freeSlotA ops k = true → a.tmps.getD k undef = a0.tmps.getD k undef) →
      (∀ j d, writes ops j d = true → Spec L j w' (a.tmps.getD d undef)) → G L w' → Q .normal a w') :
    ∀ (m k : Nat) (listed : Array Bool) (a : Act) (w : World), k + m = ops.size → (∀ j, got listed j = decide (j < k)) → LocmInv ops Spec G a0 listed a w → wpOps P ops Q (List.range' k m) a w := by
  intro m
  induction m with
  | zero =>
    intro k listed a w hk hg h
    have hl : ∀ j, j < ops.size → got listed j = true := fun j hj => by rw [hg]; exact decide_eq_true (by omega)
    exact fin (got listed) a w hl h.defers (h.slots.trans hn) h.other (fun j d hd => h.done j d (hl j (by unfold writes at hd; split at hd; cases hd; exact (Array.getElem?_eq_some_iff.1 ‹_›).1)) hd) h.grew
  | succ m ih =>
    intro k listed a w hk hg h
    have hlt : k < ops.size := by omega
    have ho := Array.getElem?_eq_getElem hlt
    generalize ops[k] = o at ho
    have L := locm_of hB k o ho
    have hwt : ∀ j, waits o j = true → got listed j = true := fun j hj => by
      unfold waits at hj
      obtain ⟨e, he, hb⟩ := Array.any_eq_true'.1 hj
      simp only [Bool.and_eq_true, beq_iff_eq] at hb
      obtain ⟨rfl, hb⟩ := hb
      rw [hg]
      exact decide_eq_true (L.after e he hb)
    have hni : got listed k = false := by rw [hg]; simp
    have st := step k o ho
    unfold LocStepG at st
    simp only [← Array.getD_eq_getD_getElem?] at st
    rw [List.range'_succ]
    unfold wpOps
    simp only [ho]
    rw [if_pos (by simp [Region.wanted, L.guard])]
    refine .inl (Oper.wp_mono ?_ (st (got listed) a w hni h.other hwt h.closed h.done h.grew))
    rintro a' w' ⟨v, rfl, hS, hO, hG⟩
    have hls : k < listed.size := by rw [h.size]; exact hlt
    refine ih (k + 1) _ _ _ (by omega) (fun j => ?_) (locm_next hB hn h ho hwt hS hO hG)
    rw [got_set hls]
    unfold also
    rw [hg]
    by_cases e : j = k
    · subst e; simp
    · by_cases e2 : j < k
      · have e3 : j < k + 1 := by omega
        simp [e2, e3]
      · have e3 : ¬ j < k + 1 := by omega
        simp [e, e2, e3]
/-- The region's law, operation by operation, where the region has its own order. -/
theorem wp_region_fillO {id n : Nat} {l : List Oper} {w : World} (hl : ops = l.toArray) (hB : locmB n ops = true) (hn : a0.tmps.size = n)
    (start : ∀ L, (∀ k, L k = false) → G L w)
    (step : AllFrom (LocStepG P ops Spec G a0 Q) 0 l)
    (fin : ∀ (L : Nat → Bool) (a : Act) (w' : World), (∀ k, k < ops.size → L k = true) → a.defers = a0.defers → a.tmps.size = n → (∀ k, freeSlotA ops k = true → a.tmps[k]?.getD undef = a0.tmps[k]?.getD undef) →
      (∀ j d, writes ops j d = true → Spec L j w' (a.tmps[d]?.getD undef)) → G L w' → Q .normal a w') :
    (Code.region id l.toArray false).wp P Q a0 w := by
  subst hl
  have hg : ∀ k, got (Array.replicate l.toArray.size false) k = false := fun k => by unfold got; by_cases h : k < l.length <;> simp [h]
  refine wp_region ?_
  rw [List.range_eq_range']
  refine locm_list (Spec := Spec) (G := G) hB hn (fun i o ho => ?_) (fun L a w' h1 h2 h3 h4 h5 h6 => fin L a w' h1 h2 h3 (fun k hk => ?_) (fun j d hw => ?_) h6) _ 0 (Array.replicate l.toArray.size false) _ _ (by simp) (fun j => by rw [hg]; simp) ⟨by simp, rfl, rfl, fun _ _ => rfl, fun j d hj _ => ?_, fun j k hj _ => ?_, start _ hg⟩
  · have := all_from l 0 i o step (by simpa using ho)
    rw [Nat.zero_add] at this
    exact this
  · rw [← Array.getD_eq_getD_getElem?, ← Array.getD_eq_getD_getElem?]; exact h4 k hk
  · rw [← Array.getD_eq_getD_getElem?]; exact h5 j d hw
  · rw [hg] at hj; cases hj
  · rw [hg] at hj; cases hj
theorem wp_region_fillW {id n : Nat} {l : List Oper} {w : World} (hl : ops = l.toArray) (Spec : (Nat → Bool) → Nat → World → Value → Prop) (hB : locmB n ops = true) (hn : a0.tmps.size = n)
    (step : AllFrom (LocStep P ops Spec w a0 Q) 0 l)
    (fin : ∀ (L : Nat → Bool) (a : Act) (w' : World), (∀ k, k < ops.size → L k = true) → a.defers = a0.defers → a.tmps.size = n → (∀ k, freeSlotA ops k = true → a.tmps[k]?.getD undef = a0.tmps[k]?.getD undef) →
      (∀ j d, writes ops j d = true → Spec L j w' (a.tmps[d]?.getD undef)) → Grew w w' → Q .normal a w') :
    (Code.region id l.toArray false).wp P Q a0 w :=
  wp_region_fillO hl (Spec := Spec) (G := fun _ w' => Grew w w') hB hn (fun _ _ => Grew.refl w) step fin
end
end Go.Proofs.YtcdmbnbanopioaaGreatDoor

namespace Go.Proofs.YtcdmbnbanopioaaGreatDoor
open Go.RowKit
set_option linter.unusedVariables false

/-- The cells of a kind's fields. -/
def sfCells : List Int → List Value
  | p :: s :: r => .int .i64 p :: .int .i64 (s.natAbs : Nat) :: .bool (decide (s < 0)) :: sfCells r
  | _ => []
def sopsAt (n : Nat) : Code → Array Oper
  | .region k ops _ => if k = n then ops else #[]
  | .seq a b => sopsAt n a ++ sopsAt n b
  | _ => #[]
noncomputable def sOps : Array Oper := (Tryz.f70.body.map (sopsAt 1)).getD #[]
noncomputable def sRows : List KRow := [⟨15, 2, 0, 41, sfCells [1, -4, 5, -4, 9, -4, 13, -2, 15, -2, 17, -2, 19, 1, 20, 1, 21, 1, 22, 2, 24, 4, 28, 1]⟩,
  ⟨21, 4, 0, 188, sfCells [1, -2, 3, 4, 7, 1]⟩,
  ⟨30, 7, 0, 20, sfCells [1, 2, 3, 4, 7, 1, 8, 4, 12, 4, 16, 4]⟩,
  ⟨43, 41, 0, 91, sfCells [1, 2, 3, 2, 5, 2, 7, 4, 11, 2, 13, 1, 14, 1, 15, 1, 16, 1, 17, 2]⟩,
  ⟨55, 52, 0, 19, sfCells [1, 1, 2, 1, 3, 1, 4, 1, 5, 1, 6, 2, 8, -2, 10, 4, 14, 1]⟩,
  ⟨59, 11, 0, 2, sfCells [1, 1]⟩,
  ⟨63, 12, 0, 2, sfCells [1, 1]⟩,
  ⟨69, 166, 0, 8, sfCells [1, 1, 2, 1, 3, 1]⟩]
theorem sRows_good : SGood sRows := by
  constructor <;> (unfold sRows; simp)
set_option maxHeartbeats 1000000 in
theorem srp_unsigned (p n : Int) (w : World) : Calls Tryz.prog 92 #[.int .i64 p, .int .i64 n] w fun e w' => e = .returned (.agg #[.int .i64 p, .int .i64 n, .bool false]) ∧ Grew w w' := by
  go_enter Tryz.func92, Tryz.ntmps92
  go_wp2_with fail
  refine bodyPost_ret (by simp [results, Tryz.results92, go_sem]; try rfl) rfl ?_
  exact ⟨rfl, (Grew.refl w).alloc _⟩
set_option maxHeartbeats 1000000 in
theorem srp_signed (p n : Int) (w : World) : Calls Tryz.prog 91 #[.int .i64 p, .int .i64 n] w fun e w' => e = .returned (.agg #[.int .i64 p, .int .i64 n, .bool true]) ∧ Grew w w' := by
  go_enter Tryz.func91, Tryz.ntmps91
  go_wp2_with fail
  refine bodyPost_ret (by simp [results, Tryz.results91, go_sem]; try rfl) rfl ?_
  exact ⟨rfl, (Grew.refl w).alloc _⟩
set_option maxHeartbeats 1000000 in
theorem srp_kind (n : Int) (A : Option Addr) (l c : Nat) (w : World) : Calls Tryz.prog 90 #[.int .i64 n, .slice A l c] w fun e w' => e = .returned (.agg #[.int .i64 n, .slice A l c]) ∧ Grew w w' := by
  go_enter Tryz.func90, Tryz.ntmps90
  go_wp2_with fail
  refine bodyPost_ret (by simp [results, Tryz.results90, go_sem]; try rfl) rfl ?_
  exact ⟨rfl, (Grew.refl w).alloc _⟩
/-- The table as it stands. -/
def SKindsAt (w : World) (v : Value) : Prop :=
  ∃ m es clk, v = .map (some m) ∧ w.heap[m]? = some (.map es clk) ∧ (∀ e ∈ es.toList, ∃ k ∈ sRows, SEntry 125 w k e) ∧ (∀ k ∈ sRows, ∃ e ∈ es.toList, SEntry 125 w k e)
noncomputable def sShapes : List KShape := [.inr (.inr (.inr ())),
  .inl (.agg #[.int .i64 1, .int .i64 4, .bool true]),
  .inl (.agg #[.int .i64 5, .int .i64 4, .bool true]),
  .inl (.agg #[.int .i64 9, .int .i64 4, .bool true]),
  .inl (.agg #[.int .i64 13, .int .i64 2, .bool true]),
  .inl (.agg #[.int .i64 15, .int .i64 2, .bool true]),
  .inl (.agg #[.int .i64 17, .int .i64 2, .bool true]),
  .inl (.agg #[.int .i64 19, .int .i64 1, .bool false]),
  .inl (.agg #[.int .i64 20, .int .i64 1, .bool false]),
  .inl (.agg #[.int .i64 21, .int .i64 1, .bool false]),
  .inl (.agg #[.int .i64 22, .int .i64 2, .bool false]),
  .inl (.agg #[.int .i64 24, .int .i64 4, .bool false]),
  .inl (.agg #[.int .i64 28, .int .i64 1, .bool false]),
  .inr (.inl (sfCells [1, -4, 5, -4, 9, -4, 13, -2, 15, -2, 17, -2, 19, 1, 20, 1, 21, 1, 22, 2, 24, 4, 28, 1])),
  .inr (.inr (.inl (41, sfCells [1, -4, 5, -4, 9, -4, 13, -2, 15, -2, 17, -2, 19, 1, 20, 1, 21, 1, 22, 2, 24, 4, 28, 1]))),
  .inl undef,
  .inl (.agg #[.int .i64 1, .int .i64 2, .bool true]),
  .inl (.agg #[.int .i64 3, .int .i64 4, .bool false]),
  .inl (.agg #[.int .i64 7, .int .i64 1, .bool false]),
  .inr (.inl (sfCells [1, -2, 3, 4, 7, 1])),
  .inr (.inr (.inl (188, sfCells [1, -2, 3, 4, 7, 1]))),
  .inl undef,
  .inl (.agg #[.int .i64 1, .int .i64 2, .bool false]),
  .inl (.agg #[.int .i64 3, .int .i64 4, .bool false]),
  .inl (.agg #[.int .i64 7, .int .i64 1, .bool false]),
  .inl (.agg #[.int .i64 8, .int .i64 4, .bool false]),
  .inl (.agg #[.int .i64 12, .int .i64 4, .bool false]),
  .inl (.agg #[.int .i64 16, .int .i64 4, .bool false]),
  .inr (.inl (sfCells [1, 2, 3, 4, 7, 1, 8, 4, 12, 4, 16, 4])),
  .inr (.inr (.inl (20, sfCells [1, 2, 3, 4, 7, 1, 8, 4, 12, 4, 16, 4]))),
  .inl undef,
  .inl (.agg #[.int .i64 1, .int .i64 2, .bool false]),
  .inl (.agg #[.int .i64 3, .int .i64 2, .bool false]),
  .inl (.agg #[.int .i64 5, .int .i64 2, .bool false]),
  .inl (.agg #[.int .i64 7, .int .i64 4, .bool false]),
  .inl (.agg #[.int .i64 11, .int .i64 2, .bool false]),
  .inl (.agg #[.int .i64 13, .int .i64 1, .bool false]),
  .inl (.agg #[.int .i64 14, .int .i64 1, .bool false]),
  .inl (.agg #[.int .i64 15, .int .i64 1, .bool false]),
  .inl (.agg #[.int .i64 16, .int .i64 1, .bool false]),
  .inl (.agg #[.int .i64 17, .int .i64 2, .bool false]),
  .inr (.inl (sfCells [1, 2, 3, 2, 5, 2, 7, 4, 11, 2, 13, 1, 14, 1, 15, 1, 16, 1, 17, 2])),
  .inr (.inr (.inl (91, sfCells [1, 2, 3, 2, 5, 2, 7, 4, 11, 2, 13, 1, 14, 1, 15, 1, 16, 1, 17, 2]))),
  .inl undef,
  .inl (.agg #[.int .i64 1, .int .i64 1, .bool false]),
  .inl (.agg #[.int .i64 2, .int .i64 1, .bool false]),
  .inl (.agg #[.int .i64 3, .int .i64 1, .bool false]),
  .inl (.agg #[.int .i64 4, .int .i64 1, .bool false]),
  .inl (.agg #[.int .i64 5, .int .i64 1, .bool false]),
  .inl (.agg #[.int .i64 6, .int .i64 2, .bool false]),
  .inl (.agg #[.int .i64 8, .int .i64 2, .bool true]),
  .inl (.agg #[.int .i64 10, .int .i64 4, .bool false]),
  .inl (.agg #[.int .i64 14, .int .i64 1, .bool false]),
  .inr (.inl (sfCells [1, 1, 2, 1, 3, 1, 4, 1, 5, 1, 6, 2, 8, -2, 10, 4, 14, 1])),
  .inr (.inr (.inl (19, sfCells [1, 1, 2, 1, 3, 1, 4, 1, 5, 1, 6, 2, 8, -2, 10, 4, 14, 1]))),
  .inl undef,
  .inl (.agg #[.int .i64 1, .int .i64 1, .bool false]),
  .inr (.inl (sfCells [1, 1])),
  .inr (.inr (.inl (2, sfCells [1, 1]))),
  .inl undef,
  .inl (.agg #[.int .i64 1, .int .i64 1, .bool false]),
  .inr (.inl (sfCells [1, 1])),
  .inr (.inr (.inl (2, sfCells [1, 1]))),
  .inl undef,
  .inl (.agg #[.int .i64 1, .int .i64 1, .bool false]),
  .inl (.agg #[.int .i64 2, .int .i64 1, .bool false]),
  .inl (.agg #[.int .i64 3, .int .i64 1, .bool false]),
  .inr (.inl (sfCells [1, 1, 2, 1, 3, 1])),
  .inr (.inr (.inl (8, sfCells [1, 1, 2, 1, 3, 1]))),
  .inl undef,
  .inr (.inr (.inr ())),
  .inr (.inr (.inr ()))]
set_option maxRecDepth 1000000 in
set_option maxHeartbeats 8000000 in
theorem srp_kinds (w : World) : Calls Tryz.prog 70 #[] w fun e w' => ∃ v, e = .returned v ∧ SKindsAt w' v ∧ Grew w w' := by
  go_enter Tryz.func70, Tryz.ntmps70
  go_upto_region 1 with fail
  refine wp_region_fillW (n := 64) (ops := sOps) ?_ (fun L i w' v => SLeft 125 w sRows L (sShapes.getD i (.inl undef)) w' v) ?_ ?_ ?_ ?_
  case refine_1 => kernel_rfl
  case refine_2 => kernel_rfl
  case refine_3 => rfl
  case refine_5 =>
    intro L a w' hL hdef hsz ho hd g
    obtain ⟨m, e1, hWm, es, clk, hb, h1, h2⟩ : SLeft 125 w sRows L (.inr (.inr (.inr ()))) w' (a.tmps[0]?.getD undef) := hd 71 0 (by kernel_rfl)
    go_wp2_with fail
    refine bodyPost_ret (v := .map (some m)) (by simp [results, Tryz.results70, go_sem, e1]; try rfl) hdef ?_
    exact ⟨_, rfl, ⟨m, es, clk, rfl, hb, fun e he => (by obtain ⟨k, hk, _, hx⟩ := h1 e he; exact ⟨k, hk, hx⟩), fun k hk => h2 k hk (hL _ (by have := List.all_eq_true.1 (show sRows.all (fun k => decide (k.at_ < sOps.size)) = true by kernel_rfl) k hk; simpa using this))⟩, g⟩
  simp only [AllFrom, List.append]
  refine ⟨?_, ?_, ?_, ?_, ?_, ?_, ?_, ?_, ?_, ?_, ?_, ?_, ?_, ?_, ?_, ?_, ?_, ?_, ?_, ?_, ?_, ?_, ?_, ?_, ?_, ?_, ?_, ?_, ?_, ?_, ?_, ?_, ?_, ?_, ?_, ?_, ?_, ?_, ?_, ?_, ?_, ?_, ?_, ?_, ?_, ?_, ?_, ?_, ?_, ?_, ?_, ?_, ?_, ?_, ?_, ?_, ?_, ?_, ?_, ?_, ?_, ?_, ?_, ?_, ?_, ?_, ?_, ?_, ?_, ?_, ?_, ?_, trivial⟩
  · intro L a w' hL ho hw hc hd g
    refine sm_of hd g (by kernel_rfl) ?_
    refine each_made (v := .map (some w'.heap.size)) (w1 := w'.alloc (.map #[] 0)) ?_ ((Grew.refl _).alloc _) ⟨_, rfl, g.size, #[], 0, heap_alloc_new _ _, fun e he => (by simp at he), fun k hk hl => ?_⟩
    · simp [execOp, go_sem, run_makeMap]
    · exfalso
      have hl2 : L k.at_ = true := by rw [also_ne (by have := List.all_eq_true.1 (show sRows.all (fun k => k.at_ != 0) = true by kernel_rfl) k hk; simpa using this)] at hl; exact hl
      have := hc k.at_ 0 hl2 (by have := List.all_eq_true.1 (show sRows.all (fun k => waitsAt sOps k.at_ 0) = true by kernel_rfl) k hk; simpa using this)
      rw [hL] at this
      cases this
  · intro L a w' hL ho hw hc hd g
    exact sm_of hd g (by kernel_rfl) (each_call (f := 91) (args := #[.int .i64 1, .int .i64 4]) (by simp [go_sem]) ((srp_signed 1 4 w').mono (fun e w'' q => ⟨_, q.1, rfl, q.2⟩)))
  · intro L a w' hL ho hw hc hd g
    exact sm_of hd g (by kernel_rfl) (each_call (f := 91) (args := #[.int .i64 5, .int .i64 4]) (by simp [go_sem]) ((srp_signed 5 4 w').mono (fun e w'' q => ⟨_, q.1, rfl, q.2⟩)))
  · intro L a w' hL ho hw hc hd g
    exact sm_of hd g (by kernel_rfl) (each_call (f := 91) (args := #[.int .i64 9, .int .i64 4]) (by simp [go_sem]) ((srp_signed 9 4 w').mono (fun e w'' q => ⟨_, q.1, rfl, q.2⟩)))
  · intro L a w' hL ho hw hc hd g
    exact sm_of hd g (by kernel_rfl) (each_call (f := 91) (args := #[.int .i64 13, .int .i64 2]) (by simp [go_sem]) ((srp_signed 13 2 w').mono (fun e w'' q => ⟨_, q.1, rfl, q.2⟩)))
  · intro L a w' hL ho hw hc hd g
    exact sm_of hd g (by kernel_rfl) (each_call (f := 91) (args := #[.int .i64 15, .int .i64 2]) (by simp [go_sem]) ((srp_signed 15 2 w').mono (fun e w'' q => ⟨_, q.1, rfl, q.2⟩)))
  · intro L a w' hL ho hw hc hd g
    exact sm_of hd g (by kernel_rfl) (each_call (f := 91) (args := #[.int .i64 17, .int .i64 2]) (by simp [go_sem]) ((srp_signed 17 2 w').mono (fun e w'' q => ⟨_, q.1, rfl, q.2⟩)))
  · intro L a w' hL ho hw hc hd g
    exact sm_of hd g (by kernel_rfl) (each_call (f := 92) (args := #[.int .i64 19, .int .i64 1]) (by simp [go_sem]) ((srp_unsigned 19 1 w').mono (fun e w'' q => ⟨_, q.1, rfl, q.2⟩)))
  · intro L a w' hL ho hw hc hd g
    exact sm_of hd g (by kernel_rfl) (each_call (f := 92) (args := #[.int .i64 20, .int .i64 1]) (by simp [go_sem]) ((srp_unsigned 20 1 w').mono (fun e w'' q => ⟨_, q.1, rfl, q.2⟩)))
  · intro L a w' hL ho hw hc hd g
    exact sm_of hd g (by kernel_rfl) (each_call (f := 92) (args := #[.int .i64 21, .int .i64 1]) (by simp [go_sem]) ((srp_unsigned 21 1 w').mono (fun e w'' q => ⟨_, q.1, rfl, q.2⟩)))
  · intro L a w' hL ho hw hc hd g
    exact sm_of hd g (by kernel_rfl) (each_call (f := 92) (args := #[.int .i64 22, .int .i64 2]) (by simp [go_sem]) ((srp_unsigned 22 2 w').mono (fun e w'' q => ⟨_, q.1, rfl, q.2⟩)))
  · intro L a w' hL ho hw hc hd g
    exact sm_of hd g (by kernel_rfl) (each_call (f := 92) (args := #[.int .i64 24, .int .i64 4]) (by simp [go_sem]) ((srp_unsigned 24 4 w').mono (fun e w'' q => ⟨_, q.1, rfl, q.2⟩)))
  · intro L a w' hL ho hw hc hd g
    exact sm_of hd g (by kernel_rfl) (each_call (f := 92) (args := #[.int .i64 28, .int .i64 1]) (by simp [go_sem]) ((srp_unsigned 28 1 w').mono (fun e w'' q => ⟨_, q.1, rfl, q.2⟩)))
  · intro L a w' hL ho hw hc hd g
    have e2 : a.tmps[2]?.getD undef = .agg #[.int .i64 1, .int .i64 4, .bool true] := hd 1 2 (hw 1 (by kernel_rfl)) (by kernel_rfl)
    have e3 : a.tmps[3]?.getD undef = .agg #[.int .i64 5, .int .i64 4, .bool true] := hd 2 3 (hw 2 (by kernel_rfl)) (by kernel_rfl)
    have e4 : a.tmps[4]?.getD undef = .agg #[.int .i64 9, .int .i64 4, .bool true] := hd 3 4 (hw 3 (by kernel_rfl)) (by kernel_rfl)
    have e5 : a.tmps[5]?.getD undef = .agg #[.int .i64 13, .int .i64 2, .bool true] := hd 4 5 (hw 4 (by kernel_rfl)) (by kernel_rfl)
    have e6 : a.tmps[6]?.getD undef = .agg #[.int .i64 15, .int .i64 2, .bool true] := hd 5 6 (hw 5 (by kernel_rfl)) (by kernel_rfl)
    have e7 : a.tmps[7]?.getD undef = .agg #[.int .i64 17, .int .i64 2, .bool true] := hd 6 7 (hw 6 (by kernel_rfl)) (by kernel_rfl)
    have e8 : a.tmps[8]?.getD undef = .agg #[.int .i64 19, .int .i64 1, .bool false] := hd 7 8 (hw 7 (by kernel_rfl)) (by kernel_rfl)
    have e9 : a.tmps[9]?.getD undef = .agg #[.int .i64 20, .int .i64 1, .bool false] := hd 8 9 (hw 8 (by kernel_rfl)) (by kernel_rfl)
    have e10 : a.tmps[10]?.getD undef = .agg #[.int .i64 21, .int .i64 1, .bool false] := hd 9 10 (hw 9 (by kernel_rfl)) (by kernel_rfl)
    have e11 : a.tmps[11]?.getD undef = .agg #[.int .i64 22, .int .i64 2, .bool false] := hd 10 11 (hw 10 (by kernel_rfl)) (by kernel_rfl)
    have e12 : a.tmps[12]?.getD undef = .agg #[.int .i64 24, .int .i64 4, .bool false] := hd 11 12 (hw 11 (by kernel_rfl)) (by kernel_rfl)
    have e13 : a.tmps[13]?.getD undef = .agg #[.int .i64 28, .int .i64 1, .bool false] := hd 12 13 (hw 12 (by kernel_rfl)) (by kernel_rfl)
    refine sm_of hd g (by kernel_rfl) (each_made (v := .slice (some ⟨w'.heap.size, 0, none⟩) 12 12) (w1 := w'.alloc (.cells #[.int .i64 1, .int .i64 4, .bool true, .int .i64 5, .int .i64 4, .bool true, .int .i64 9, .int .i64 4, .bool true, .int .i64 13, .int .i64 2, .bool true, .int .i64 15, .int .i64 2, .bool true, .int .i64 17, .int .i64 2, .bool true, .int .i64 19, .int .i64 1, .bool false, .int .i64 20, .int .i64 1, .bool false, .int .i64 21, .int .i64 1, .bool false, .int .i64 22, .int .i64 2, .bool false, .int .i64 24, .int .i64 4, .bool false, .int .i64 28, .int .i64 1, .bool false] 125)) ?_ ((Grew.refl _).alloc _) ⟨_, _, rfl, by kernel_rfl, heap_alloc_new _ _⟩)
    clear hd hw hc ho
    simp [execOp, go_sem, e2, e3, e4, e5, e6, e7, e8, e9, e10, e11, e12, e13]
  · intro L a w' hL ho hw hc hd g
    obtain ⟨b, n, e1, hn, hb⟩ : SLeft 125 w sRows L (.inr (.inl (sfCells [1, -4, 5, -4, 9, -4, 13, -2, 15, -2, 17, -2, 19, 1, 20, 1, 21, 1, 22, 2, 24, 4, 28, 1]))) w' (a.tmps[14]?.getD undef) := hd 13 14 (hw 13 (by kernel_rfl)) (by kernel_rfl)
    refine sm_of hd g (by kernel_rfl) (each_call (f := 90) (args := #[.int .i64 41, .slice (some ⟨b, 0, none⟩) n n]) ?_ ((srp_kind 41 (some ⟨b, 0, none⟩) n n w').mono (fun e w'' q => ⟨_, q.1, ⟨b, n, rfl, hn, KKept.of_grew q.2 _ _ _ _ hb⟩, q.2⟩)))
    clear hd hw hc ho
    simp [go_sem, e1]
  · intro L a w' hL ho hw hc hd g
    exact sm_insert (k := ⟨15, 2, 0, 41, sfCells [1, -4, 5, -4, 9, -4, 13, -2, 15, -2, 17, -2, 19, 1, 20, 1, 21, 1, 22, 2, 24, 4, 28, 1]⟩) sRows_good (by simp [sRows]) rfl rfl rfl hL hd hc g (by kernel_rfl) rfl (by kernel_rfl) (hd 0 1 (hw 0 (by kernel_rfl)) (by kernel_rfl)) (hd 14 15 (hw 14 (by kernel_rfl)) (by kernel_rfl))
  · intro L a w' hL ho hw hc hd g
    exact sm_of hd g (by kernel_rfl) (each_call (f := 91) (args := #[.int .i64 1, .int .i64 2]) (by simp [go_sem]) ((srp_signed 1 2 w').mono (fun e w'' q => ⟨_, q.1, rfl, q.2⟩)))
  · intro L a w' hL ho hw hc hd g
    exact sm_of hd g (by kernel_rfl) (each_call (f := 92) (args := #[.int .i64 3, .int .i64 4]) (by simp [go_sem]) ((srp_unsigned 3 4 w').mono (fun e w'' q => ⟨_, q.1, rfl, q.2⟩)))
  · intro L a w' hL ho hw hc hd g
    exact sm_of hd g (by kernel_rfl) (each_call (f := 92) (args := #[.int .i64 7, .int .i64 1]) (by simp [go_sem]) ((srp_unsigned 7 1 w').mono (fun e w'' q => ⟨_, q.1, rfl, q.2⟩)))
  · intro L a w' hL ho hw hc hd g
    have e16 : a.tmps[16]?.getD undef = .agg #[.int .i64 1, .int .i64 2, .bool true] := hd 16 16 (hw 16 (by kernel_rfl)) (by kernel_rfl)
    have e17 : a.tmps[17]?.getD undef = .agg #[.int .i64 3, .int .i64 4, .bool false] := hd 17 17 (hw 17 (by kernel_rfl)) (by kernel_rfl)
    have e18 : a.tmps[18]?.getD undef = .agg #[.int .i64 7, .int .i64 1, .bool false] := hd 18 18 (hw 18 (by kernel_rfl)) (by kernel_rfl)
    refine sm_of hd g (by kernel_rfl) (each_made (v := .slice (some ⟨w'.heap.size, 0, none⟩) 3 3) (w1 := w'.alloc (.cells #[.int .i64 1, .int .i64 2, .bool true, .int .i64 3, .int .i64 4, .bool false, .int .i64 7, .int .i64 1, .bool false] 125)) ?_ ((Grew.refl _).alloc _) ⟨_, _, rfl, by kernel_rfl, heap_alloc_new _ _⟩)
    clear hd hw hc ho
    simp [execOp, go_sem, e16, e17, e18]
  · intro L a w' hL ho hw hc hd g
    obtain ⟨b, n, e1, hn, hb⟩ : SLeft 125 w sRows L (.inr (.inl (sfCells [1, -2, 3, 4, 7, 1]))) w' (a.tmps[19]?.getD undef) := hd 19 19 (hw 19 (by kernel_rfl)) (by kernel_rfl)
    refine sm_of hd g (by kernel_rfl) (each_call (f := 90) (args := #[.int .i64 188, .slice (some ⟨b, 0, none⟩) n n]) ?_ ((srp_kind 188 (some ⟨b, 0, none⟩) n n w').mono (fun e w'' q => ⟨_, q.1, ⟨b, n, rfl, hn, KKept.of_grew q.2 _ _ _ _ hb⟩, q.2⟩)))
    clear hd hw hc ho
    simp [go_sem, e1]
  · intro L a w' hL ho hw hc hd g
    exact sm_insert (k := ⟨21, 4, 0, 188, sfCells [1, -2, 3, 4, 7, 1]⟩) sRows_good (by simp [sRows]) rfl rfl rfl hL hd hc g (by kernel_rfl) rfl (by kernel_rfl) (hd 0 1 (hw 0 (by kernel_rfl)) (by kernel_rfl)) (hd 20 20 (hw 20 (by kernel_rfl)) (by kernel_rfl))
  · intro L a w' hL ho hw hc hd g
    exact sm_of hd g (by kernel_rfl) (each_call (f := 92) (args := #[.int .i64 1, .int .i64 2]) (by simp [go_sem]) ((srp_unsigned 1 2 w').mono (fun e w'' q => ⟨_, q.1, rfl, q.2⟩)))
  · intro L a w' hL ho hw hc hd g
    exact sm_of hd g (by kernel_rfl) (each_call (f := 92) (args := #[.int .i64 3, .int .i64 4]) (by simp [go_sem]) ((srp_unsigned 3 4 w').mono (fun e w'' q => ⟨_, q.1, rfl, q.2⟩)))
  · intro L a w' hL ho hw hc hd g
    exact sm_of hd g (by kernel_rfl) (each_call (f := 92) (args := #[.int .i64 7, .int .i64 1]) (by simp [go_sem]) ((srp_unsigned 7 1 w').mono (fun e w'' q => ⟨_, q.1, rfl, q.2⟩)))
  · intro L a w' hL ho hw hc hd g
    exact sm_of hd g (by kernel_rfl) (each_call (f := 92) (args := #[.int .i64 8, .int .i64 4]) (by simp [go_sem]) ((srp_unsigned 8 4 w').mono (fun e w'' q => ⟨_, q.1, rfl, q.2⟩)))
  · intro L a w' hL ho hw hc hd g
    exact sm_of hd g (by kernel_rfl) (each_call (f := 92) (args := #[.int .i64 12, .int .i64 4]) (by simp [go_sem]) ((srp_unsigned 12 4 w').mono (fun e w'' q => ⟨_, q.1, rfl, q.2⟩)))
  · intro L a w' hL ho hw hc hd g
    exact sm_of hd g (by kernel_rfl) (each_call (f := 92) (args := #[.int .i64 16, .int .i64 4]) (by simp [go_sem]) ((srp_unsigned 16 4 w').mono (fun e w'' q => ⟨_, q.1, rfl, q.2⟩)))
  · intro L a w' hL ho hw hc hd g
    have e21 : a.tmps[21]?.getD undef = .agg #[.int .i64 1, .int .i64 2, .bool false] := hd 22 21 (hw 22 (by kernel_rfl)) (by kernel_rfl)
    have e22 : a.tmps[22]?.getD undef = .agg #[.int .i64 3, .int .i64 4, .bool false] := hd 23 22 (hw 23 (by kernel_rfl)) (by kernel_rfl)
    have e23 : a.tmps[23]?.getD undef = .agg #[.int .i64 7, .int .i64 1, .bool false] := hd 24 23 (hw 24 (by kernel_rfl)) (by kernel_rfl)
    have e24 : a.tmps[24]?.getD undef = .agg #[.int .i64 8, .int .i64 4, .bool false] := hd 25 24 (hw 25 (by kernel_rfl)) (by kernel_rfl)
    have e25 : a.tmps[25]?.getD undef = .agg #[.int .i64 12, .int .i64 4, .bool false] := hd 26 25 (hw 26 (by kernel_rfl)) (by kernel_rfl)
    have e26 : a.tmps[26]?.getD undef = .agg #[.int .i64 16, .int .i64 4, .bool false] := hd 27 26 (hw 27 (by kernel_rfl)) (by kernel_rfl)
    refine sm_of hd g (by kernel_rfl) (each_made (v := .slice (some ⟨w'.heap.size, 0, none⟩) 6 6) (w1 := w'.alloc (.cells #[.int .i64 1, .int .i64 2, .bool false, .int .i64 3, .int .i64 4, .bool false, .int .i64 7, .int .i64 1, .bool false, .int .i64 8, .int .i64 4, .bool false, .int .i64 12, .int .i64 4, .bool false, .int .i64 16, .int .i64 4, .bool false] 125)) ?_ ((Grew.refl _).alloc _) ⟨_, _, rfl, by kernel_rfl, heap_alloc_new _ _⟩)
    clear hd hw hc ho
    simp [execOp, go_sem, e21, e22, e23, e24, e25, e26]
  · intro L a w' hL ho hw hc hd g
    obtain ⟨b, n, e1, hn, hb⟩ : SLeft 125 w sRows L (.inr (.inl (sfCells [1, 2, 3, 4, 7, 1, 8, 4, 12, 4, 16, 4]))) w' (a.tmps[27]?.getD undef) := hd 28 27 (hw 28 (by kernel_rfl)) (by kernel_rfl)
    refine sm_of hd g (by kernel_rfl) (each_call (f := 90) (args := #[.int .i64 20, .slice (some ⟨b, 0, none⟩) n n]) ?_ ((srp_kind 20 (some ⟨b, 0, none⟩) n n w').mono (fun e w'' q => ⟨_, q.1, ⟨b, n, rfl, hn, KKept.of_grew q.2 _ _ _ _ hb⟩, q.2⟩)))
    clear hd hw hc ho
    simp [go_sem, e1]
  · intro L a w' hL ho hw hc hd g
    exact sm_insert (k := ⟨30, 7, 0, 20, sfCells [1, 2, 3, 4, 7, 1, 8, 4, 12, 4, 16, 4]⟩) sRows_good (by simp [sRows]) rfl rfl rfl hL hd hc g (by kernel_rfl) rfl (by kernel_rfl) (hd 0 1 (hw 0 (by kernel_rfl)) (by kernel_rfl)) (hd 29 28 (hw 29 (by kernel_rfl)) (by kernel_rfl))
  · intro L a w' hL ho hw hc hd g
    exact sm_of hd g (by kernel_rfl) (each_call (f := 92) (args := #[.int .i64 1, .int .i64 2]) (by simp [go_sem]) ((srp_unsigned 1 2 w').mono (fun e w'' q => ⟨_, q.1, rfl, q.2⟩)))
  · intro L a w' hL ho hw hc hd g
    exact sm_of hd g (by kernel_rfl) (each_call (f := 92) (args := #[.int .i64 3, .int .i64 2]) (by simp [go_sem]) ((srp_unsigned 3 2 w').mono (fun e w'' q => ⟨_, q.1, rfl, q.2⟩)))
  · intro L a w' hL ho hw hc hd g
    exact sm_of hd g (by kernel_rfl) (each_call (f := 92) (args := #[.int .i64 5, .int .i64 2]) (by simp [go_sem]) ((srp_unsigned 5 2 w').mono (fun e w'' q => ⟨_, q.1, rfl, q.2⟩)))
  · intro L a w' hL ho hw hc hd g
    exact sm_of hd g (by kernel_rfl) (each_call (f := 92) (args := #[.int .i64 7, .int .i64 4]) (by simp [go_sem]) ((srp_unsigned 7 4 w').mono (fun e w'' q => ⟨_, q.1, rfl, q.2⟩)))
  · intro L a w' hL ho hw hc hd g
    exact sm_of hd g (by kernel_rfl) (each_call (f := 92) (args := #[.int .i64 11, .int .i64 2]) (by simp [go_sem]) ((srp_unsigned 11 2 w').mono (fun e w'' q => ⟨_, q.1, rfl, q.2⟩)))
  · intro L a w' hL ho hw hc hd g
    exact sm_of hd g (by kernel_rfl) (each_call (f := 92) (args := #[.int .i64 13, .int .i64 1]) (by simp [go_sem]) ((srp_unsigned 13 1 w').mono (fun e w'' q => ⟨_, q.1, rfl, q.2⟩)))
  · intro L a w' hL ho hw hc hd g
    exact sm_of hd g (by kernel_rfl) (each_call (f := 92) (args := #[.int .i64 14, .int .i64 1]) (by simp [go_sem]) ((srp_unsigned 14 1 w').mono (fun e w'' q => ⟨_, q.1, rfl, q.2⟩)))
  · intro L a w' hL ho hw hc hd g
    exact sm_of hd g (by kernel_rfl) (each_call (f := 92) (args := #[.int .i64 15, .int .i64 1]) (by simp [go_sem]) ((srp_unsigned 15 1 w').mono (fun e w'' q => ⟨_, q.1, rfl, q.2⟩)))
  · intro L a w' hL ho hw hc hd g
    exact sm_of hd g (by kernel_rfl) (each_call (f := 92) (args := #[.int .i64 16, .int .i64 1]) (by simp [go_sem]) ((srp_unsigned 16 1 w').mono (fun e w'' q => ⟨_, q.1, rfl, q.2⟩)))
  · intro L a w' hL ho hw hc hd g
    exact sm_of hd g (by kernel_rfl) (each_call (f := 92) (args := #[.int .i64 17, .int .i64 2]) (by simp [go_sem]) ((srp_unsigned 17 2 w').mono (fun e w'' q => ⟨_, q.1, rfl, q.2⟩)))
  · intro L a w' hL ho hw hc hd g
    have e29 : a.tmps[29]?.getD undef = .agg #[.int .i64 1, .int .i64 2, .bool false] := hd 31 29 (hw 31 (by kernel_rfl)) (by kernel_rfl)
    have e30 : a.tmps[30]?.getD undef = .agg #[.int .i64 3, .int .i64 2, .bool false] := hd 32 30 (hw 32 (by kernel_rfl)) (by kernel_rfl)
    have e31 : a.tmps[31]?.getD undef = .agg #[.int .i64 5, .int .i64 2, .bool false] := hd 33 31 (hw 33 (by kernel_rfl)) (by kernel_rfl)
    have e32 : a.tmps[32]?.getD undef = .agg #[.int .i64 7, .int .i64 4, .bool false] := hd 34 32 (hw 34 (by kernel_rfl)) (by kernel_rfl)
    have e33 : a.tmps[33]?.getD undef = .agg #[.int .i64 11, .int .i64 2, .bool false] := hd 35 33 (hw 35 (by kernel_rfl)) (by kernel_rfl)
    have e34 : a.tmps[34]?.getD undef = .agg #[.int .i64 13, .int .i64 1, .bool false] := hd 36 34 (hw 36 (by kernel_rfl)) (by kernel_rfl)
    have e35 : a.tmps[35]?.getD undef = .agg #[.int .i64 14, .int .i64 1, .bool false] := hd 37 35 (hw 37 (by kernel_rfl)) (by kernel_rfl)
    have e36 : a.tmps[36]?.getD undef = .agg #[.int .i64 15, .int .i64 1, .bool false] := hd 38 36 (hw 38 (by kernel_rfl)) (by kernel_rfl)
    have e37 : a.tmps[37]?.getD undef = .agg #[.int .i64 16, .int .i64 1, .bool false] := hd 39 37 (hw 39 (by kernel_rfl)) (by kernel_rfl)
    have e38 : a.tmps[38]?.getD undef = .agg #[.int .i64 17, .int .i64 2, .bool false] := hd 40 38 (hw 40 (by kernel_rfl)) (by kernel_rfl)
    refine sm_of hd g (by kernel_rfl) (each_made (v := .slice (some ⟨w'.heap.size, 0, none⟩) 10 10) (w1 := w'.alloc (.cells #[.int .i64 1, .int .i64 2, .bool false, .int .i64 3, .int .i64 2, .bool false, .int .i64 5, .int .i64 2, .bool false, .int .i64 7, .int .i64 4, .bool false, .int .i64 11, .int .i64 2, .bool false, .int .i64 13, .int .i64 1, .bool false, .int .i64 14, .int .i64 1, .bool false, .int .i64 15, .int .i64 1, .bool false, .int .i64 16, .int .i64 1, .bool false, .int .i64 17, .int .i64 2, .bool false] 125)) ?_ ((Grew.refl _).alloc _) ⟨_, _, rfl, by kernel_rfl, heap_alloc_new _ _⟩)
    clear hd hw hc ho
    simp [execOp, go_sem, e29, e30, e31, e32, e33, e34, e35, e36, e37, e38]
  · intro L a w' hL ho hw hc hd g
    obtain ⟨b, n, e1, hn, hb⟩ : SLeft 125 w sRows L (.inr (.inl (sfCells [1, 2, 3, 2, 5, 2, 7, 4, 11, 2, 13, 1, 14, 1, 15, 1, 16, 1, 17, 2]))) w' (a.tmps[39]?.getD undef) := hd 41 39 (hw 41 (by kernel_rfl)) (by kernel_rfl)
    refine sm_of hd g (by kernel_rfl) (each_call (f := 90) (args := #[.int .i64 91, .slice (some ⟨b, 0, none⟩) n n]) ?_ ((srp_kind 91 (some ⟨b, 0, none⟩) n n w').mono (fun e w'' q => ⟨_, q.1, ⟨b, n, rfl, hn, KKept.of_grew q.2 _ _ _ _ hb⟩, q.2⟩)))
    clear hd hw hc ho
    simp [go_sem, e1]
  · intro L a w' hL ho hw hc hd g
    exact sm_insert (k := ⟨43, 41, 0, 91, sfCells [1, 2, 3, 2, 5, 2, 7, 4, 11, 2, 13, 1, 14, 1, 15, 1, 16, 1, 17, 2]⟩) sRows_good (by simp [sRows]) rfl rfl rfl hL hd hc g (by kernel_rfl) rfl (by kernel_rfl) (hd 0 1 (hw 0 (by kernel_rfl)) (by kernel_rfl)) (hd 42 40 (hw 42 (by kernel_rfl)) (by kernel_rfl))
  · intro L a w' hL ho hw hc hd g
    exact sm_of hd g (by kernel_rfl) (each_call (f := 92) (args := #[.int .i64 1, .int .i64 1]) (by simp [go_sem]) ((srp_unsigned 1 1 w').mono (fun e w'' q => ⟨_, q.1, rfl, q.2⟩)))
  · intro L a w' hL ho hw hc hd g
    exact sm_of hd g (by kernel_rfl) (each_call (f := 92) (args := #[.int .i64 2, .int .i64 1]) (by simp [go_sem]) ((srp_unsigned 2 1 w').mono (fun e w'' q => ⟨_, q.1, rfl, q.2⟩)))
  · intro L a w' hL ho hw hc hd g
    exact sm_of hd g (by kernel_rfl) (each_call (f := 92) (args := #[.int .i64 3, .int .i64 1]) (by simp [go_sem]) ((srp_unsigned 3 1 w').mono (fun e w'' q => ⟨_, q.1, rfl, q.2⟩)))
  · intro L a w' hL ho hw hc hd g
    exact sm_of hd g (by kernel_rfl) (each_call (f := 92) (args := #[.int .i64 4, .int .i64 1]) (by simp [go_sem]) ((srp_unsigned 4 1 w').mono (fun e w'' q => ⟨_, q.1, rfl, q.2⟩)))
  · intro L a w' hL ho hw hc hd g
    exact sm_of hd g (by kernel_rfl) (each_call (f := 92) (args := #[.int .i64 5, .int .i64 1]) (by simp [go_sem]) ((srp_unsigned 5 1 w').mono (fun e w'' q => ⟨_, q.1, rfl, q.2⟩)))
  · intro L a w' hL ho hw hc hd g
    exact sm_of hd g (by kernel_rfl) (each_call (f := 92) (args := #[.int .i64 6, .int .i64 2]) (by simp [go_sem]) ((srp_unsigned 6 2 w').mono (fun e w'' q => ⟨_, q.1, rfl, q.2⟩)))
  · intro L a w' hL ho hw hc hd g
    exact sm_of hd g (by kernel_rfl) (each_call (f := 91) (args := #[.int .i64 8, .int .i64 2]) (by simp [go_sem]) ((srp_signed 8 2 w').mono (fun e w'' q => ⟨_, q.1, rfl, q.2⟩)))
  · intro L a w' hL ho hw hc hd g
    exact sm_of hd g (by kernel_rfl) (each_call (f := 92) (args := #[.int .i64 10, .int .i64 4]) (by simp [go_sem]) ((srp_unsigned 10 4 w').mono (fun e w'' q => ⟨_, q.1, rfl, q.2⟩)))
  · intro L a w' hL ho hw hc hd g
    exact sm_of hd g (by kernel_rfl) (each_call (f := 92) (args := #[.int .i64 14, .int .i64 1]) (by simp [go_sem]) ((srp_unsigned 14 1 w').mono (fun e w'' q => ⟨_, q.1, rfl, q.2⟩)))
  · intro L a w' hL ho hw hc hd g
    have e41 : a.tmps[41]?.getD undef = .agg #[.int .i64 1, .int .i64 1, .bool false] := hd 44 41 (hw 44 (by kernel_rfl)) (by kernel_rfl)
    have e42 : a.tmps[42]?.getD undef = .agg #[.int .i64 2, .int .i64 1, .bool false] := hd 45 42 (hw 45 (by kernel_rfl)) (by kernel_rfl)
    have e43 : a.tmps[43]?.getD undef = .agg #[.int .i64 3, .int .i64 1, .bool false] := hd 46 43 (hw 46 (by kernel_rfl)) (by kernel_rfl)
    have e44 : a.tmps[44]?.getD undef = .agg #[.int .i64 4, .int .i64 1, .bool false] := hd 47 44 (hw 47 (by kernel_rfl)) (by kernel_rfl)
    have e45 : a.tmps[45]?.getD undef = .agg #[.int .i64 5, .int .i64 1, .bool false] := hd 48 45 (hw 48 (by kernel_rfl)) (by kernel_rfl)
    have e46 : a.tmps[46]?.getD undef = .agg #[.int .i64 6, .int .i64 2, .bool false] := hd 49 46 (hw 49 (by kernel_rfl)) (by kernel_rfl)
    have e47 : a.tmps[47]?.getD undef = .agg #[.int .i64 8, .int .i64 2, .bool true] := hd 50 47 (hw 50 (by kernel_rfl)) (by kernel_rfl)
    have e48 : a.tmps[48]?.getD undef = .agg #[.int .i64 10, .int .i64 4, .bool false] := hd 51 48 (hw 51 (by kernel_rfl)) (by kernel_rfl)
    have e49 : a.tmps[49]?.getD undef = .agg #[.int .i64 14, .int .i64 1, .bool false] := hd 52 49 (hw 52 (by kernel_rfl)) (by kernel_rfl)
    refine sm_of hd g (by kernel_rfl) (each_made (v := .slice (some ⟨w'.heap.size, 0, none⟩) 9 9) (w1 := w'.alloc (.cells #[.int .i64 1, .int .i64 1, .bool false, .int .i64 2, .int .i64 1, .bool false, .int .i64 3, .int .i64 1, .bool false, .int .i64 4, .int .i64 1, .bool false, .int .i64 5, .int .i64 1, .bool false, .int .i64 6, .int .i64 2, .bool false, .int .i64 8, .int .i64 2, .bool true, .int .i64 10, .int .i64 4, .bool false, .int .i64 14, .int .i64 1, .bool false] 125)) ?_ ((Grew.refl _).alloc _) ⟨_, _, rfl, by kernel_rfl, heap_alloc_new _ _⟩)
    clear hd hw hc ho
    simp [execOp, go_sem, e41, e42, e43, e44, e45, e46, e47, e48, e49]
  · intro L a w' hL ho hw hc hd g
    obtain ⟨b, n, e1, hn, hb⟩ : SLeft 125 w sRows L (.inr (.inl (sfCells [1, 1, 2, 1, 3, 1, 4, 1, 5, 1, 6, 2, 8, -2, 10, 4, 14, 1]))) w' (a.tmps[50]?.getD undef) := hd 53 50 (hw 53 (by kernel_rfl)) (by kernel_rfl)
    refine sm_of hd g (by kernel_rfl) (each_call (f := 90) (args := #[.int .i64 19, .slice (some ⟨b, 0, none⟩) n n]) ?_ ((srp_kind 19 (some ⟨b, 0, none⟩) n n w').mono (fun e w'' q => ⟨_, q.1, ⟨b, n, rfl, hn, KKept.of_grew q.2 _ _ _ _ hb⟩, q.2⟩)))
    clear hd hw hc ho
    simp [go_sem, e1]
  · intro L a w' hL ho hw hc hd g
    exact sm_insert (k := ⟨55, 52, 0, 19, sfCells [1, 1, 2, 1, 3, 1, 4, 1, 5, 1, 6, 2, 8, -2, 10, 4, 14, 1]⟩) sRows_good (by simp [sRows]) rfl rfl rfl hL hd hc g (by kernel_rfl) rfl (by kernel_rfl) (hd 0 1 (hw 0 (by kernel_rfl)) (by kernel_rfl)) (hd 54 51 (hw 54 (by kernel_rfl)) (by kernel_rfl))
  · intro L a w' hL ho hw hc hd g
    exact sm_of hd g (by kernel_rfl) (each_call (f := 92) (args := #[.int .i64 1, .int .i64 1]) (by simp [go_sem]) ((srp_unsigned 1 1 w').mono (fun e w'' q => ⟨_, q.1, rfl, q.2⟩)))
  · intro L a w' hL ho hw hc hd g
    have e52 : a.tmps[52]?.getD undef = .agg #[.int .i64 1, .int .i64 1, .bool false] := hd 56 52 (hw 56 (by kernel_rfl)) (by kernel_rfl)
    refine sm_of hd g (by kernel_rfl) (each_made (v := .slice (some ⟨w'.heap.size, 0, none⟩) 1 1) (w1 := w'.alloc (.cells #[.int .i64 1, .int .i64 1, .bool false] 125)) ?_ ((Grew.refl _).alloc _) ⟨_, _, rfl, by kernel_rfl, heap_alloc_new _ _⟩)
    clear hd hw hc ho
    simp [execOp, go_sem, e52]
  · intro L a w' hL ho hw hc hd g
    obtain ⟨b, n, e1, hn, hb⟩ : SLeft 125 w sRows L (.inr (.inl (sfCells [1, 1]))) w' (a.tmps[53]?.getD undef) := hd 57 53 (hw 57 (by kernel_rfl)) (by kernel_rfl)
    refine sm_of hd g (by kernel_rfl) (each_call (f := 90) (args := #[.int .i64 2, .slice (some ⟨b, 0, none⟩) n n]) ?_ ((srp_kind 2 (some ⟨b, 0, none⟩) n n w').mono (fun e w'' q => ⟨_, q.1, ⟨b, n, rfl, hn, KKept.of_grew q.2 _ _ _ _ hb⟩, q.2⟩)))
    clear hd hw hc ho
    simp [go_sem, e1]
  · intro L a w' hL ho hw hc hd g
    exact sm_insert (k := ⟨59, 11, 0, 2, sfCells [1, 1]⟩) sRows_good (by simp [sRows]) rfl rfl rfl hL hd hc g (by kernel_rfl) rfl (by kernel_rfl) (hd 0 1 (hw 0 (by kernel_rfl)) (by kernel_rfl)) (hd 58 54 (hw 58 (by kernel_rfl)) (by kernel_rfl))
  · intro L a w' hL ho hw hc hd g
    exact sm_of hd g (by kernel_rfl) (each_call (f := 92) (args := #[.int .i64 1, .int .i64 1]) (by simp [go_sem]) ((srp_unsigned 1 1 w').mono (fun e w'' q => ⟨_, q.1, rfl, q.2⟩)))
  · intro L a w' hL ho hw hc hd g
    have e55 : a.tmps[55]?.getD undef = .agg #[.int .i64 1, .int .i64 1, .bool false] := hd 60 55 (hw 60 (by kernel_rfl)) (by kernel_rfl)
    refine sm_of hd g (by kernel_rfl) (each_made (v := .slice (some ⟨w'.heap.size, 0, none⟩) 1 1) (w1 := w'.alloc (.cells #[.int .i64 1, .int .i64 1, .bool false] 125)) ?_ ((Grew.refl _).alloc _) ⟨_, _, rfl, by kernel_rfl, heap_alloc_new _ _⟩)
    clear hd hw hc ho
    simp [execOp, go_sem, e55]
  · intro L a w' hL ho hw hc hd g
    obtain ⟨b, n, e1, hn, hb⟩ : SLeft 125 w sRows L (.inr (.inl (sfCells [1, 1]))) w' (a.tmps[56]?.getD undef) := hd 61 56 (hw 61 (by kernel_rfl)) (by kernel_rfl)
    refine sm_of hd g (by kernel_rfl) (each_call (f := 90) (args := #[.int .i64 2, .slice (some ⟨b, 0, none⟩) n n]) ?_ ((srp_kind 2 (some ⟨b, 0, none⟩) n n w').mono (fun e w'' q => ⟨_, q.1, ⟨b, n, rfl, hn, KKept.of_grew q.2 _ _ _ _ hb⟩, q.2⟩)))
    clear hd hw hc ho
    simp [go_sem, e1]
  · intro L a w' hL ho hw hc hd g
    exact sm_insert (k := ⟨63, 12, 0, 2, sfCells [1, 1]⟩) sRows_good (by simp [sRows]) rfl rfl rfl hL hd hc g (by kernel_rfl) rfl (by kernel_rfl) (hd 0 1 (hw 0 (by kernel_rfl)) (by kernel_rfl)) (hd 62 57 (hw 62 (by kernel_rfl)) (by kernel_rfl))
  · intro L a w' hL ho hw hc hd g
    exact sm_of hd g (by kernel_rfl) (each_call (f := 92) (args := #[.int .i64 1, .int .i64 1]) (by simp [go_sem]) ((srp_unsigned 1 1 w').mono (fun e w'' q => ⟨_, q.1, rfl, q.2⟩)))
  · intro L a w' hL ho hw hc hd g
    exact sm_of hd g (by kernel_rfl) (each_call (f := 92) (args := #[.int .i64 2, .int .i64 1]) (by simp [go_sem]) ((srp_unsigned 2 1 w').mono (fun e w'' q => ⟨_, q.1, rfl, q.2⟩)))
  · intro L a w' hL ho hw hc hd g
    exact sm_of hd g (by kernel_rfl) (each_call (f := 92) (args := #[.int .i64 3, .int .i64 1]) (by simp [go_sem]) ((srp_unsigned 3 1 w').mono (fun e w'' q => ⟨_, q.1, rfl, q.2⟩)))
  · intro L a w' hL ho hw hc hd g
    have e58 : a.tmps[58]?.getD undef = .agg #[.int .i64 1, .int .i64 1, .bool false] := hd 64 58 (hw 64 (by kernel_rfl)) (by kernel_rfl)
    have e59 : a.tmps[59]?.getD undef = .agg #[.int .i64 2, .int .i64 1, .bool false] := hd 65 59 (hw 65 (by kernel_rfl)) (by kernel_rfl)
    have e60 : a.tmps[60]?.getD undef = .agg #[.int .i64 3, .int .i64 1, .bool false] := hd 66 60 (hw 66 (by kernel_rfl)) (by kernel_rfl)
    refine sm_of hd g (by kernel_rfl) (each_made (v := .slice (some ⟨w'.heap.size, 0, none⟩) 3 3) (w1 := w'.alloc (.cells #[.int .i64 1, .int .i64 1, .bool false, .int .i64 2, .int .i64 1, .bool false, .int .i64 3, .int .i64 1, .bool false] 125)) ?_ ((Grew.refl _).alloc _) ⟨_, _, rfl, by kernel_rfl, heap_alloc_new _ _⟩)
    clear hd hw hc ho
    simp [execOp, go_sem, e58, e59, e60]
  · intro L a w' hL ho hw hc hd g
    obtain ⟨b, n, e1, hn, hb⟩ : SLeft 125 w sRows L (.inr (.inl (sfCells [1, 1, 2, 1, 3, 1]))) w' (a.tmps[61]?.getD undef) := hd 67 61 (hw 67 (by kernel_rfl)) (by kernel_rfl)
    refine sm_of hd g (by kernel_rfl) (each_call (f := 90) (args := #[.int .i64 8, .slice (some ⟨b, 0, none⟩) n n]) ?_ ((srp_kind 8 (some ⟨b, 0, none⟩) n n w').mono (fun e w'' q => ⟨_, q.1, ⟨b, n, rfl, hn, KKept.of_grew q.2 _ _ _ _ hb⟩, q.2⟩)))
    clear hd hw hc ho
    simp [go_sem, e1]
  · intro L a w' hL ho hw hc hd g
    exact sm_insert (k := ⟨69, 166, 0, 8, sfCells [1, 1, 2, 1, 3, 1]⟩) sRows_good (by simp [sRows]) rfl rfl rfl hL hd hc g (by kernel_rfl) rfl (by kernel_rfl) (hd 0 1 (hw 0 (by kernel_rfl)) (by kernel_rfl)) (hd 68 62 (hw 68 (by kernel_rfl)) (by kernel_rfl))
  · intro L a w' hL ho hw hc hd g
    obtain ⟨m, e1, hm⟩ : SLeft 125 w sRows L (.inr (.inr (.inr ()))) w' (a.tmps[1]?.getD undef) := hd 0 1 (hw 0 (by kernel_rfl)) (by kernel_rfl)
    refine sm_of hd g (by kernel_rfl) (each_value (v := .map (some m)) ?_ ⟨m, rfl, hm.also (Grew.refl _) (fun k hk => by have := List.all_eq_true.1 (show sRows.all (fun k => k.at_ != 70) = true by kernel_rfl) k hk; simpa using this)⟩)
    clear hd hw hc ho
    simp [execOp, go_sem, e1]
  · intro L a w' hL ho hw hc hd g
    obtain ⟨m, e1, hm⟩ : SLeft 125 w sRows L (.inr (.inr (.inr ()))) w' (a.tmps[63]?.getD undef) := hd 70 63 (hw 70 (by kernel_rfl)) (by kernel_rfl)
    refine sm_of hd g (by kernel_rfl) (each_value (v := .map (some m)) ?_ ⟨m, rfl, hm.also (Grew.refl _) (fun k hk => by have := List.all_eq_true.1 (show sRows.all (fun k => k.at_ != 71) = true by kernel_rfl) k hk; simpa using this)⟩)
    clear hd hw hc ho
    simp [execOp, go_sem, e1]
end Go.Proofs.YtcdmbnbanopioaaGreatDoor

namespace Go.Proofs.YtcdmbnbanopioaaGreatDoor
open Go.RowKit
set_option linter.unusedVariables false

theorem sfCells_length : ∀ l : List Int, (sfCells l).length = 3 * (l.length / 2)
  | [] => by simp [sfCells]
  | [_] => by simp [sfCells]
  | p :: s :: r => by rw [sfCells, List.length_cons, List.length_cons, List.length_cons, sfCells_length r, List.length_cons, List.length_cons]; omega
theorem szi_cons2 (p s : Int) (r : List Int) (i : Nat) : zi (p :: s :: r) (i + 2) = zi r i := rfl
theorem sfCells_at : ∀ (l : List Int) (k : Nat), 2 * k + 1 < l.length → (sfCells l)[k * 3]? = some (.int .i64 (zi l (2 * k))) ∧ (sfCells l)[k * 3 + 1]? = some (.int .i64 ((zi l (2 * k + 1)).natAbs : Nat)) ∧ (sfCells l)[k * 3 + 2]? = some (.bool (decide (zi l (2 * k + 1) < 0)))
  | [], k, h => by simp at h
  | [_], k, h => by simp at h
  | p :: s :: r, 0, _ => by simp [sfCells, zi]
  | p :: s :: r, k + 1, h => by
    have ih := sfCells_at r k (by simp at h; omega)
    rw [show 2 * (k + 1) = 2 * k + 2 from rfl, show 2 * k + 2 + 1 = (2 * k + 1) + 2 by omega, szi_cons2, szi_cons2, sfCells, show (k + 1) * 3 = (k * 3) + 1 + 1 + 1 by omega]
    simpa using ih
/-- A kind's layout as it stands. -/
def SLayAt (w : World) (v : Value) (c : Nat) : Prop :=
  ∃ (A : Option Addr) (cap : Nat), v = .agg #[.int .i64 ((srfLay c).1 : Nat), .slice A ((srfLay c).2.length / 2) cap] ∧
    (∀ k, 2 * k + 1 < (srfLay c).2.length → ∃ b, A = some ⟨b, 0, none⟩ ∧ b < w.heap.size ∧ w.cell? ⟨b, k * 3, none⟩ = some (.int .i64 (zi (srfLay c).2 (2 * k))) ∧ w.cell? ⟨b, k * 3 + 1, none⟩ = some (.int .i64 ((zi (srfLay c).2 (2 * k + 1)).natAbs : Nat)) ∧ w.cell? ⟨b, k * 3 + 2, none⟩ = some (.bool (decide (zi (srfLay c).2 (2 * k + 1) < 0))))
theorem sRows_is : ∀ k ∈ sRows, k.a < 256 ∧ k.len = (srfLay k.a).1 ∧ k.cs = sfCells (srfLay k.a).2 ∧ (srfLay k.a).1 ≠ 0 := by
  unfold sRows
  intro k hk
  simp only [List.mem_cons, List.not_mem_nil, or_false] at hk
  rcases hk with rfl | rfl | rfl | rfl | rfl | rfl | rfl | rfl <;> exact ⟨by decide, by kernel_rfl, by kernel_rfl, by decide⟩
theorem sRows_has (a : Nat) (h : (srfLay a).1 ≠ 0) : ∃ k ∈ sRows, k.a = a := by
  by_cases q : isSrf a
  · have hany : ∀ (x : Nat), x = a → (sRows.any fun k => k.a == x) = true → ∃ k ∈ sRows, k.a = a := fun x hx h => by
      obtain ⟨k, hk, he⟩ := List.any_eq_true.1 h
      simp only [beq_iff_eq] at he
      exact ⟨k, hk, he.trans hx⟩
    unfold isSrf at q
    rcases q with q | q | q | q | q | q | q | q
    · exact hany 2 q.symm (by kernel_rfl)
    · exact hany 4 q.symm (by kernel_rfl)
    · exact hany 7 q.symm (by kernel_rfl)
    · exact hany 41 q.symm (by kernel_rfl)
    · exact hany 52 q.symm (by kernel_rfl)
    · exact hany 11 q.symm (by kernel_rfl)
    · exact hany 12 q.symm (by kernel_rfl)
    · exact hany 166 q.symm (by kernel_rfl)
  · rw [srf_no q] at h
    exact absurd rfl h
theorem skey_inj {a b : Nat} (h : Value.int .u8 (a : Nat) = .int .u8 (b : Nat)) : a = b := by
  simp at h
  omega
/-- A kind's layout as it stands, by its block. -/
def SLayH (w : World) (v : Value) (c : Nat) : Prop :=
  ∃ (A : Option Addr) (cap : Nat), v = .agg #[.int .i64 ((srfLay c).1 : Nat), .slice A ((srfLay c).2.length / 2) cap] ∧
    (1 < (srfLay c).2.length → ∃ b, A = some ⟨b, 0, none⟩ ∧ w.heap[b]? = some (.cells (sfCells (srfLay c).2).toArray 125))
theorem SLayH.at_ {w : World} {v : Value} {c : Nat} (h : SLayH w v c) : SLayAt w v c := by
  obtain ⟨A, cap, rfl, hb⟩ := h
  refine ⟨A, cap, rfl, fun j hj => ?_⟩
  obtain ⟨fb, rfl, hblk⟩ := hb (by omega)
  refine ⟨fb, rfl, (Array.getElem?_eq_some_iff.1 hblk).1, ?_⟩
  have hc := sfCells_at _ j hj
  rw [cell_of_row w fb _ _ _ _ hblk, cell_of_row w fb _ _ _ _ hblk, cell_of_row w fb _ _ _ _ hblk]
  simpa using hc
theorem skinds_hitH (w : World) (v : Value) (h : SKindsAt w v) (a : Nat) (ha : a < 256) (hn : (srfLay a).1 ≠ 0) :
    ∃ lv, (Instr.lookup 122 v ((.int .u8 (a : Nat))) true).run Tryz.prog w = .ok (.tuple #[lv, .bool true]) w ∧ SLayH w lv a := by
  obtain ⟨m, es, clk, rfl, hm, h1, h2⟩ := h
  obtain ⟨k, hk, rfl⟩ := sRows_has a hn
  obtain ⟨e0, he0, hk0⟩ := h2 k hk
  obtain ⟨e, he, hkey, hrun⟩ := srun_hit w m k.a es clk hm (fun e he => by obtain ⟨k', _, hx, _⟩ := h1 e he; exact ⟨k'.a, hx⟩) ⟨e0, he0, hk0.1⟩
  refine ⟨e.val, hrun, ?_⟩
  obtain ⟨k', hk', hx, fb, n, hval, hlen, hblk⟩ := h1 e he
  have q1 := skey_inj (hx.symm.trans hkey)
  obtain ⟨_, i1, i2, _⟩ := sRows_is k' hk'
  rw [q1] at i1 i2
  rw [i2, sfCells_length, Nat.mul_div_cancel_left _ (by decide)] at hlen
  subst hlen
  rw [i2] at hblk
  exact ⟨some ⟨fb, 0, none⟩, _, by rw [hval, i1], fun _ => ⟨fb, rfl, hblk⟩⟩
theorem skinds_hit (w : World) (v : Value) (h : SKindsAt w v) (a : Nat) (ha : a < 256) (hn : (srfLay a).1 ≠ 0) :
    ∃ lv, (Instr.lookup 122 v ((.int .u8 (a : Nat))) true).run Tryz.prog w = .ok (.tuple #[lv, .bool true]) w ∧ SLayAt w lv a := by
  obtain ⟨lv, h1, h2⟩ := skinds_hitH w v h a ha hn
  exact ⟨lv, h1, h2.at_⟩
theorem skinds_miss (w : World) (v : Value) (h : SKindsAt w v) (a : Nat) (hn : (srfLay a).1 = 0) :
    (Instr.lookup 122 v ((.int .u8 (a : Nat))) true).run Tryz.prog w = .ok (.tuple #[.agg #[.int .i64 0, .slice none 0 0], .bool false]) w := by
  obtain ⟨m, es, clk, rfl, hm, h1, h2⟩ := h
  refine srun_miss w m a es clk hm fun e he => ?_
  obtain ⟨k', hk', hx, _⟩ := h1 e he
  refine ⟨k'.a, hx, fun q => ?_⟩
  have := (sRows_is k' hk').2.2.2
  rw [← q] at this
  exact absurd hn this
theorem SLayAt.far {F : Nat → Prop} {w w' : World} {v : Value} {c : Nat} (h : SLayAt w v c) (g : Far F w w') (hF : ∀ b, b < w.heap.size → ¬ F b) : SLayAt w' v c := by
  obtain ⟨A, cap, rfl, hc⟩ := h
  refine ⟨A, cap, rfl, fun k hk => ?_⟩
  obtain ⟨b, rfl, hb, c0, c1, c2⟩ := hc k hk
  exact ⟨b, rfl, Nat.lt_of_lt_of_le hb g.size, (g.cell (p := ⟨b, k * 3, none⟩) hb (hF b hb)).trans c0, (g.cell (p := ⟨b, k * 3 + 1, none⟩) hb (hF b hb)).trans c1, (g.cell (p := ⟨b, k * 3 + 2, none⟩) hb (hF b hb)).trans c2⟩
theorem SLayAt.grew {w w' : World} {v : Value} {c : Nat} (h : SLayAt w v c) (g : Grew w w') : SLayAt w' v c := h.far (F := fun _ => False) (Far.of_grew g) (fun _ _ q => q)
theorem slay_no {c : Nat} (h : (srfLay c).1 = 0) : srfLay c = (0, []) := by
  by_cases q : isSrf c
  · unfold isSrf at q
    rcases q with rfl | rfl | rfl | rfl | rfl | rfl | rfl | rfl <;> exact absurd h (by decide)
  · exact srf_no q
/-- A key looked up, whether it is there or not. -/
theorem skinds_look (w : World) (v : Value) (h : SKindsAt w v) (a : Nat) (ha : a < 256) :
    ∃ lv, (Instr.lookup 122 v ((.int .u8 (a : Nat))) true).run Tryz.prog w = .ok (.tuple #[lv, .bool (decide ((srfLay a).1 ≠ 0))]) w ∧ SLayH w lv a := by
  by_cases hn : (srfLay a).1 = 0
  · refine ⟨_, by rw [skinds_miss w v h a hn, hn]; rfl, none, 0, by rw [slay_no hn]; rfl, fun q => ?_⟩
    rw [slay_no hn] at q
    exact absurd q (by decide)
  · obtain ⟨lv, h1, h2⟩ := skinds_hitH w v h a ha hn
    exact ⟨lv, by rw [h1, decide_eq_true hn], h2⟩
theorem SKindsAt.grew {w w' : World} {v : Value} (h : SKindsAt w v) (g : Grew w w') : SKindsAt w' v := by
  obtain ⟨m, es, clk, rfl, hm, h1, h2⟩ := h
  refine ⟨m, es, clk, rfl, (Below.block g m (Array.getElem?_eq_some_iff.1 hm).1).trans hm, fun e he => ?_, fun k hk => ?_⟩
  · obtain ⟨k, hk, hx⟩ := h1 e he
    exact ⟨k, hk, hx.kept (.of_grew g)⟩
  · obtain ⟨e, he, hx⟩ := h2 k hk
    exact ⟨e, he, hx.kept (.of_grew g)⟩
theorem SLayH.kept {w w' : World} {v : Value} {c : Nat} (h : SLayH w v c) (g : ∀ (b : Nat) (cs : Array Value), w.heap[b]? = some (.cells cs 125) → w'.heap[b]? = some (.cells cs 125)) : SLayH w' v c := by
  obtain ⟨A, cap, rfl, hb⟩ := h
  refine ⟨A, cap, rfl, fun hl => ?_⟩
  obtain ⟨b, e, hx⟩ := hb hl
  exact ⟨b, e, g _ _ hx⟩
end Go.Proofs.YtcdmbnbanopioaaGreatDoor

namespace Go.Proofs.YtcdmbnbanopioaaGreatDoor
open Go.RowKit
set_option linter.unusedVariables false

/-- The number that the k bytes from a place on make, highest byte first. -/
def numB (S : List Nat) (p : Nat) : Nat → Nat
  | 0 => 0
  | k + 1 => numB S p k * 256 + wd S (p + k)
theorem numB_lt (S : List Nat) (p : Nat) (hB : Bytes S) : ∀ k, numB S p k < 256 ^ k
  | 0 => by simp [numB]
  | k + 1 => by
    have := numB_lt S p hB k
    have := hB (p + k)
    rw [numB, Nat.pow_succ]
    omega
theorem numB_head (S : List Nat) (p : Nat) : ∀ k, numB S p (k + 1) = wd S p * 256 ^ k + numB S (p + 1) k
  | 0 => by simp [numB]
  | k + 1 => by
    rw [numB, numB_head S p k, numB, Nat.pow_succ, show p + (k + 1) = p + 1 + k by omega]
    rw [show wd S p * (256 ^ k * 256) = wd S p * 256 ^ k * 256 from (Nat.mul_assoc _ _ _).symm]
    generalize wd S p * 256 ^ k = x
    omega
theorem numB_turn (T S : List Nat) : ∀ (m p : Nat), (∀ j, j < m → wd T j = wd S (p + (m - 1 - j))) → numLE T 0 m = numB S p m
  | 0, _, _ => rfl
  | m + 1, p, h => by
    have e : numLE T 0 (m + 1) = numLE T 0 m + wd T (0 + m) * 256 ^ m := rfl
    rw [e, numB_head, numB_turn T S m (p + 1) (fun j hj => by rw [h j (by omega)]; congr 1; omega), Nat.zero_add, h m (by omega), show p + (m + 1 - 1 - m) = p by omega]
    omega
theorem numB_is (S : List Nat) (p m : Nat) : numLE (turnTo S p m m) 0 m = numB S p m := numB_turn _ _ _ _ (fun j hj => turnTo_wd _ _ _ _ _ hj)
theorem shl_byte (n x : Nat) (k : Nat) (hk : k < 4) (hn : n < 256 ^ k) (hx : x < 256) : bits .or .i64 (wrap64 ((n : Int) * 256)) (x : Int) = ((n * 256 + x : Nat) : Int) := by
  have hp : 256 ^ k ≤ 256 ^ 3 := Nat.pow_le_pow_right (by decide) (by omega)
  have hp' : (256 : Nat) ^ 3 = 16777216 := by decide
  have e : (n : Int) * 256 = ((n * 256 : Nat) : Int) := by omega
  rw [e, IntWalk.wrap64_in _ (by omega), bits_or_i64 _ _ (by omega) (by omega)]
  have h : x < 2 ^ 8 := hx
  have := Nat.two_pow_add_eq_or_of_lt h n
  rw [show n * 256 = 2 ^ 8 * n by omega, ← this]
-- [READ
set_option maxRecDepth 100000 in
set_option maxHeartbeats 2000000 in
theorem srp_read (v : Value) (S : List Nat) (p m : Nat) (neg : Bool) (w : World) (hr : Row .u8 w v S) (hB : Bytes S) (hp : p + m ≤ S.length) (hm : 0 < m ∧ m ≤ 4) (hl : S.length ≤ 100000) :
    Calls Tryz.prog 72 #[.agg #[.int .i64 (p : Nat), .int .i64 (m : Nat), .bool neg], v] w fun e w' => e = .returned (.int .i64 (getB S p (if neg then -(m : Int) else (m : Int)))) ∧ Grew w w' := by
  have HN := Lib.hid (fun k => numB_lt S p hB k)
  have HT := Lib.hid (turnTo_bytes hB p m m)
  obtain ⟨A, c, rfl, hc, hrow⟩ := hr
  obtain ⟨b, o, rfl, hb, hcell⟩ := hrow (by omega)
  have HR := Lib.hid hcell
  have HB := Lib.hid hB
  clear hrow hcell hB
  have e0 : IntKind.i64.wrap ((p : Int) + (m : Int)) = ((p + m : Nat) : Int) := by rw [IntWalk.i64_in _ (by omega)]; omega
  have b1 : p ≤ p + m := by omega
  have b2 : p + m ≤ c := by omega
  have b3 : ¬ c = p := by omega
  have b4 : p + m - p = m := by omega
  go_enter Tryz.func72, Tryz.ntmps72
  go_upto_region 1 with fail
  obtain ⟨W, hW, g0, T0⟩ := three_new w (.int .i64 (p : Nat)) (.int .i64 (m : Nat)) (.bool neg) 125
  rw [hW]
  clear hW
  have T1 := Lib.hid T0
  obtain ⟨tl, t0, t1, t2, f0, f1, f2⟩ := T0
  go_wp2_with fail
  rw [b4]
  go_loopg [5, 19] m (fun kx s t wr => ∃ i : Nat, i + kx = m ∧ s = .int .i64 (numB S p i : Nat) ∧ t = .int .i64 i ∧ Hid (Grew W wr))
  case atStart => exact ⟨0, by omega, rfl, rfl, Lib.hid (Grew.refl _)⟩
  case round =>
    obtain ⟨i, hi, rfl, rfl, hg⟩ := hrel
    by_cases hlt : i < m
    · have hx := ((g0.trans hg.out).cell (p := ⟨b, o + (p + i), none⟩) hb).trans (HR.out (p + i) (by omega))
      rw [← Nat.add_assoc] at hx
      have hs := Lib.hid (shl_byte (numB S p i) (wd S (p + i)) i (by omega) (HN.out i) (HB.out (p + i)))
      have n2 := HB.out (p + i)
      have hs1 : Hid (numB S p (i + 1) = numB S p i * 256 + wd S (p + i)) := Lib.hid rfl
      generalize wd S (p + i) = x at *
      generalize numB S p i = N at *
      go_wp2_with fail
      rw [hs.out]
      go_roundg (m - (i + 1))
      case measure => omega
      case rel => exact ⟨i + 1, by omega, by rw [hs1.out], by go_num, hg⟩
    · obtain rfl : i = m := by omega
      obtain ⟨_, u0, u1, u2, _, _, _⟩ := T1.out.grew hg.out
      have hnl := Lib.hid (numB_is S p i)
      cases neg
      · go_wp2_with fail
        go_ret
        exact ⟨by simp [getB, getZ_pos, hnl.out], g0.trans hg.out⟩
      · have hs := Lib.hid (sign_byte (numB S p i) i hm (HN.out i))
        have hz := Lib.hid (getZ_neg (turnTo S p i i) 0 i hm.1)
        rw [hnl.out] at hz
        have hgb : Hid (getB S p (-(i : Int)) = getZ (turnTo S p i i) 0 (-(i : Int))) := Lib.hid (by unfold getB; rw [show (-(i : Int)).natAbs = i by omega])
        go_wp2_with fail
        rw [hs.out, ← hz.out, ← hgb.out]
        go_ret
        exact ⟨by simp, g0.trans hg.out⟩
-- READ]
-- [WRITE
theorem shr_step (v : Int) (k : Nat) : v / ((256 ^ k : Nat) : Int) / 256 = v / ((256 ^ (k + 1) : Nat) : Int) := by
  rw [Int.ediv_ediv_of_nonneg (Int.natCast_nonneg _), Nat.pow_succ, Int.natCast_mul]
  rfl
theorem shr_in (v : Int) (k : Nat) (hv : -9223372036854775808 ≤ v ∧ v ≤ 9223372036854775807) : -9223372036854775808 ≤ v / ((256 ^ k : Nat) : Int) ∧ v / ((256 ^ k : Nat) : Int) ≤ 9223372036854775807 := by
  have hp : 0 < 256 ^ k := Nat.pow_pos (by decide)
  generalize 256 ^ k = q at *
  constructor
  · by_cases h : 0 ≤ v
    · have := Int.ediv_nonneg h (show (0 : Int) ≤ q by omega); omega
    · have := Int.le_ediv_of_mul_le (show (0 : Int) < q by omega) (a := -9223372036854775808) (b := v) (by
        have : (9223372036854775808 : Int) * 1 ≤ 9223372036854775808 * q := Int.mul_le_mul_of_nonneg_left (by omega) (by omega)
        omega)
      exact this
  · by_cases h : 0 ≤ v
    · exact Int.le_trans (Int.ediv_le_self _ h) hv.2
    · have := Int.ediv_neg_of_neg_of_pos (show v < 0 by omega) (show (0 : Int) < q by omega); omega
set_option maxRecDepth 100000 in
set_option maxHeartbeats 2000000 in
theorem srp_write (B g cap : Nat) (S : List Nat) (p m : Nat) (neg : Bool) (v : Int) (w : World) (ho : Own B 5 .u8 w (.slice (some ⟨g, 0, none⟩) S.length cap) S) (hp : p + m ≤ S.length) (hm : 0 < m ∧ m ≤ 4) (hl : S.length ≤ 100000) (hv : -9223372036854775808 ≤ v ∧ v ≤ 9223372036854775807) :
    Calls Tryz.prog 71 #[.agg #[.int .i64 (p : Nat), .int .i64 (m : Nat), .bool neg], .slice (some ⟨g, 0, none⟩) S.length cap, .int .i64 v] w fun e w' => e = .returned (.tuple #[]) ∧ Own B 5 .u8 w' (.slice (some ⟨g, 0, none⟩) S.length cap) (putBE S p m v m) ∧ Far (fun x => x = g) w w' := by
  have hgl := (ho.lt g rfl).2
  have HO := Lib.hid ho
  have HV := Lib.hid (fun k => shr_in v k hv)
  clear ho
  go_enter Tryz.func71, Tryz.ntmps71
  go_upto_region 1 with fail
  obtain ⟨W, hW, g0, T0⟩ := three_new w (.int .i64 (p : Nat)) (.int .i64 (m : Nat)) (.bool neg) 125
  rw [hW]
  clear hW
  have T1 := Lib.hid T0
  have O0 := Lib.hid (HO.out.grew g0)
  obtain ⟨tl, t0, t1, t2, f0, f1, f2⟩ := T0
  have em : IntKind.i64.wrap ((m : Int) - 1) = (m : Int) - 1 := IntWalk.i64_in _ (by omega)
  go_wp2_with fail
  go_loopg [2, 6] (m + 1) (fun kx s t wr => ∃ k : Nat, k + kx = m + 1 ∧ k ≤ m ∧ s = .int .i64 (v / ((256 ^ k : Nat) : Int)) ∧ t = .int .i64 ((m : Int) - 1 - k) ∧ Hid (Own B 5 .u8 wr (.slice (some ⟨g, 0, none⟩) S.length cap) (putBE S p m v k)) ∧ Hid (Far (fun x => x = g) W wr))
  case atStart => exact ⟨0, by omega, by omega, by simp, by simp, Lib.hid (by simpa [putBE] using O0.out), Lib.hid (Far.refl _ _)⟩
  case round =>
    obtain ⟨k, hk, hkm, rfl, rfl, hO, hF⟩ := hrel
    by_cases hlt : k < m
    · obtain ⟨i, hi⟩ : ∃ i : Nat, m - 1 - k = i := ⟨_, rfl⟩
      have hi' : (m : Int) - 1 - k = (i : Nat) := by omega
      obtain ⟨_, u0, u1, u2, _, _, _⟩ := T1.out.far hF.out (by omega)
      have hx := World.ownsRow.cellAt (n := S.length) (cap := cap) (by have := hO.out; unfold Own at this; rwa [putBE_length] at this) (p + i) (by omega)
      rw [show (cellsOf .u8 (putBE S p m v k))[p + i]? = some (.int .u8 (wd (putBE S p m v k) (p + i) : Nat)) by simp [cellsOf, wd, putBE_length, show p + i < S.length by omega]] at hx
      have hfr := World.ownsRow.frozenAt (n := S.length) (cap := cap) (by have := hO.out; unfold Own at this; rwa [putBE_length] at this) (p + i)
      have e0 : IntKind.i64.wrap ((p : Int) + (i : Int)) = ((p + i : Nat) : Int) := by rw [IntWalk.i64_in _ (by omega)]; omega
      have e1 : IntKind.i64.wrap ((i : Int) - 1) = (i : Int) - 1 := IntWalk.i64_in _ (by omega)
      have b1 : (0 : Int) ≤ (p : Int) + i := by omega
      have b2 : (p : Int) + i < S.length := by omega
      have hs : Hid (v / ((256 ^ k : Nat) : Int) % 256 = (byteZ v k : Nat)) := Lib.hid (by unfold byteZ; omega)
      have hst := Lib.hid (shr_step v k)
      have hset : Hid ((putBE S p m v k).set (p + i) (byteZ v k) = putBE S p m v (k + 1)) := Lib.hid (by rw [putBE, hi])
      have hpl : Hid ((putBE S p m v k).length = S.length) := Lib.hid (putBE_length _ _ _ _ _)
      rw [hi']
      generalize v / ((256 ^ k : Nat) : Int) = Y at *
      go_wp2_with fail
      rw [hs.out, hst.out]
      have O2 := hO.out.set (p + i) (byteZ v k) (by rw [hpl.out]; omega)
      have F2 := hF.out.setCell (p := ⟨g, p + i, none⟩) rfl (.int .u8 (byteZ v k : Nat))
      rw [hset.out] at O2
      generalize wr.setCell ⟨g, p + i, none⟩ (.int .u8 (byteZ v k : Nat)) = V at *
      have O3 := Lib.hid O2
      have F3 := Lib.hid F2
      clear O2 F2 hx hfr hs hst hset hpl u0 u1 u2
      go_roundg (m + 1 - (k + 1))
      case measure => omega
      case rel => exact ⟨k + 1, by omega, by omega, rfl, by rw [show (i : Int) - 1 = (m : Int) - 1 - ((k + 1 : Nat) : Int) by omega], O3, F3⟩
    · obtain rfl : k = m := by omega
      have hm1 : (k : Int) - 1 - k = -1 := by omega
      rw [hm1]
      go_wp2_with fail
      exact bodyPost_end (results_none Tryz.results71 _ _ _) rfl ⟨rfl, hO.out, (Far.of_grew (F := fun x => x = g) g0).trans hF.out⟩
-- WRITE]
end Go.Proofs.YtcdmbnbanopioaaGreatDoor

namespace Go.Proofs.YtcdmbnbanopioaaGreatDoor
open Go.RowKit
set_option linter.unusedVariables false

theorem wpList_makeS {P : Program} (w : World) {ops : Array Oper} {rest : List Oper} {o : Oper} {a : Act} {Q : Exit → Act → World → Prop} (hgd : o.guard = none) (l c : Operand) (t : TypeId) (hop : o.op = .makeSlice t l c)
    (base : Nat) (E : TypeId) (k : IntKind) (bytes : Nat) (ht : P.underlying t = some (.slice E)) (hi : (P.info? E).map (fun i => (i.zero, i.size, i.bytes)) = some (some (.int k 0), 1, bytes))
    (n : Nat) (hl : a.eval l = .int .i64 (n : Nat)) (hc : a.eval c = .int .i64 (n : Nat)) (hb : bytes * n ≤ 281474976710656) (hm : n ≤ maxLen) (hbase : base ≤ w.heap.size)
    (h : ∀ w', Own base E k w' (.slice (some ⟨w.heap.size, 0, none⟩) n n) (List.replicate n 0) → Grew w w' → wpList P ops Q rest (a.put o.dst (.slice (some ⟨w.heap.size, 0, none⟩) n n)) w') : wpList P ops Q (o :: rest) a w := by
  obtain ⟨i, hi0, hz0, hz1, hz2⟩ := info_parts hi
  refine wpList_make_full w hgd l c t hop base E i (.int k 0) 1 ht hi0 hz0 hz1 .i64 .i64 _ _ n hl hc rfl rfl (by rw [hz2]; exact hb) hm hbase fun w' h1 h2 => h w' ?_ ?_
  · have e : (madeCells (Value.int k 0).cells (n * 1)).toList = List.replicate n (.int k 0) := by
      rw [show (Value.int k 0).cells = #[.int k 0] from rfl, Nat.mul_one]
      unfold madeCells
      refine List.ext_getElem (by simp) fun i h1 h2 => ?_
      simp [Nat.mod_one]
    rw [e] at h1
    unfold Own
    rw [List.length_replicate, show cellsOf k (List.replicate n 0) = List.replicate n (.int k 0) by simp [cellsOf]]
    exact h1
  · exact Below.grown (Grew.refl w) h2 (Nat.le_refl _) (fun b hb => by cases hb)
theorem Own.cellS {w : World} {B : Nat} {E : TypeId} {k : IntKind} {g c n : Nat} {ns : List Nat} (h : Own B E k w (.slice (some ⟨g, 0, none⟩) n c) ns) (hn : n = ns.length) (j : Nat) (hj : j < ns.length) : w.cell? ⟨g, j, none⟩ = some (.int k (wd ns j : Nat)) ∧ w.frozen? ⟨g, j, none⟩ = false := by
  subst hn
  unfold Own at h
  refine ⟨?_, World.ownsRow.frozenAt h j⟩
  rw [World.ownsRow.cellAt h j (by omega)]
  simp [cellsOf, wd, hj]
theorem fits_noS {l zs : List Int} {k K : Nat} (h : fitsTo l zs (k + 1) = false) (hk : k < K) : fitsTo l zs K = false := by
  cases q : fitsTo l zs K with
  | false => rfl
  | true => rw [fitsTo_all q (k + 1) (by omega)] at h; cases h
theorem tmod_is (Y : Int) : (0 ≤ Y.tmod 256 ∧ Y.tmod 256 = Y % 256) ∨ (Y.tmod 256 < 0 ∧ Y.tmod 256 + 256 = Y % 256) := by
  rw [Int.tmod_eq_emod]
  split <;> simp <;> omega
theorem tdiv_is (Y : Int) : (Y - Y % 256).tdiv 256 = Y / 256 := by
  have : Y - Y % 256 = 256 * (Y / 256) := by omega
  rw [this, Int.mul_tdiv_cancel_left _ (by decide)]
theorem ediv_step (z : Int) (j : Nat) : z / ((256 ^ j : Nat) : Int) / 256 = z / ((256 ^ (j + 1) : Nat) : Int) := by
  rw [Int.ediv_ediv_of_nonneg (Int.natCast_nonneg _), Nat.pow_succ, Int.natCast_mul]
  rfl
theorem ediv_in (z : Int) (j : Nat) (h : -4294967296 ≤ z ∧ z ≤ 4294967296) : -4294967296 ≤ z / ((256 ^ j : Nat) : Int) ∧ z / ((256 ^ j : Nat) : Int) ≤ 4294967296 := by
  have hp : 0 < 256 ^ j := Nat.pow_pos (by decide)
  generalize 256 ^ j = q at *
  have h1 := Int.mul_ediv_add_emod z (q : Int)
  have h2 := Int.emod_nonneg z (show (q : Int) ≠ 0 by omega)
  have h3 := Int.emod_lt_of_pos z (show (0 : Int) < (q : Int) by omega)
  constructor
  · refine Int.not_lt.1 fun hlt => ?_
    have : (q : Int) * (z / (q : Int)) ≤ (q : Int) * (-4294967297) := Int.mul_le_mul_of_nonneg_left (by omega) (by omega)
    have h5 : (q : Int) * (-4294967297) ≤ -4294967296 - q := by
      have : (q : Int) * 4294967297 ≥ 4294967296 + q := by omega
      omega
    omega
  · refine Int.not_lt.1 fun hlt => ?_
    have : (q : Int) * 4294967297 ≤ (q : Int) * (z / (q : Int)) := Int.mul_le_mul_of_nonneg_left (by omega) (by omega)
    omega
theorem fits_in {z : Int} {m : Nat} {Z : Int} (hZ : Z = (m : Int) ∨ Z = -(m : Int)) (hm : 0 < m ∧ m ≤ 4) (h : fitsZ z Z = true) : -4294967296 ≤ z ∧ z ≤ 4294967296 := by
  have hp := pow_le4 m hm.2
  have e : Z.natAbs = m := by omega
  unfold fitsZ at h
  rw [e] at h
  generalize 256 ^ m = q at *
  split at h <;> simp only [decide_eq_true_eq] at h <;> omega
-- [PAY
set_option maxRecDepth 100000 in
set_option maxHeartbeats 8000000 in
theorem ref13_Payload (a : Nat) (v : Value) (zs : List Int) (w : World) (ha : a < 256) (hr : RowZ .i64 w v zs) (hz : ∀ i, -9223372036854775808 ≤ zi zs i ∧ zi zs i ≤ 9223372036854775807) (hl : zs.length ≤ 100000) :
    Calls Tryz.prog 32 #[.agg #[.int .u8 (a : Nat), v]] w (PayR (srfPay a zs) w) := by
  have hok := srf_layOk a
  have HF := srf_field a
  have HL := fun w => ref13_Layout a w ha
  have hpay : srfPay a zs = if (srfLay a).1 = 0 then ([], 7) else if 2 * zs.length ≠ (srfLay a).2.length then ([], 2) else if fitsTo (srfLay a).2 zs zs.length = true then (bpayTo a (srfLay a).2 zs (srfLay a).1 zs.length, 0) else ([], 2) := rfl
  generalize srfPay a zs = r at *
  generalize (srfLay a).1 = n at *
  generalize (srfLay a).2 = l at *
  replace HL := fun w => Lib.hid (HL w)
  have hev := hok.even
  have HR := Lib.hid hr
  obtain ⟨ZA, zc, rfl, hzc⟩ := hr.form
  clear hr
  go_enter Tryz.func32, Tryz.ntmps32
  go_upto_region 1 with fail
  obtain ⟨W, hW, g0, T0⟩ := twoC_new w (.int .u8 (a : Nat)) (.slice ZA zs.length zc) 40
  rw [hW]
  clear hW
  have T1 := Lib.hid T0
  obtain ⟨_, s0, s1, _, _⟩ := T0
  go_upto_region 2 with (go_at_call 54; refine (HL _).out.mono ?_; rintro e w1 ⟨lv, rfl, hlv, g1⟩)
  obtain ⟨LA, lc, rfl, hlc⟩ := hlv.form
  obtain ⟨_, s0, s1, _, _⟩ := T1.out.grew g1
  have G1 := Lib.hid (g0.trans g1)
  by_cases hn0 : n = 0
  · have HP0 : Hid (r = ([], 7)) := Lib.hid (by rw [hpay, if_pos hn0])
    subst hn0
    clear hpay
    go_wp2_with fail
    go_ret2
    rw [HP0.out]
    exact payR_no G1.out
  · have n0 : ¬ (n : Int) = 0 := by omega
    by_cases hne : 2 * zs.length ≠ l.length
    · have HP0 : Hid (r = ([], 2)) := Lib.hid (by rw [hpay, if_neg hn0, if_pos hne])
      have n1 : ¬ (zs.length : Int) * 2 = (l.length : Int) := by omega
      have n2 : IntKind.i64.wrap ((zs.length : Int) * 2) = (zs.length : Int) * 2 := IntWalk.i64_in _ (by omega)
      clear hpay
      go_wp2_with fail
      go_ret2
      rw [HP0.out]
      exact payR_no G1.out
    · have HP' : Hid (r = if fitsTo l zs zs.length = true then (bpayTo a l zs n zs.length, 0) else ([], 2)) := Lib.hid (by rw [hpay, if_neg hn0, if_neg hne])
      have H2K : Hid (2 * zs.length = l.length) := by show _ = _; omega
      have n1 : (zs.length : Int) * 2 = (l.length : Int) := by omega
      have n2 : IntKind.i64.wrap ((zs.length : Int) * 2) = (l.length : Int) := by rw [n1]; exact IntWalk.i64_in _ (by omega)
      clear hpay hne
      go_upto_region 7 with (refine wpList_makeS _ rfl _ _ 25 rfl w1.heap.size 5 .u8 1 Tryz.underlying25 infoU8 n rfl rfl (by omega) (by unfold maxLen; omega) (Nat.le_refl _) ?_; intro V1 hO0 gV1)
      have hvl1 : w1.heap.size < V1.heap.size := (hO0.lt _ rfl).2
      have hw1 : w.heap.size < w1.heap.size := Nat.lt_of_lt_of_le T1.out.lt g1.size
      obtain ⟨hx, hfr⟩ := hO0.cellS (by simp) 0 (by simp; omega)
      obtain ⟨_, s0, s1, _, _⟩ := T1.out.grew (g1.trans gV1)
      have b0 : (0 : Int) < n := by omega
      go_upto_region 8 with fail
      have O2 := hO0.set 0 a (by simp; omega)
      have F2 := (Far.refl (fun x => x = w1.heap.size) V1).setCell (p := ⟨w1.heap.size, 0, none⟩) rfl (.int .u8 (a : Nat))
      generalize V1.setCell ⟨w1.heap.size, 0, none⟩ (.int .u8 (a : Nat)) = V2 at *
      have hO0 : Own w1.heap.size 5 .u8 V2 (.slice (some ⟨w1.heap.size, 0, none⟩) n n) (bpayTo a l zs n 0) := O2
      have hvl : w1.heap.size < V2.heap.size := Nat.lt_of_lt_of_le hvl1 F2.size
      have GA := Lib.hid (F2.grew (G1.out.trans gV1) (fun x h => by have : x = w1.heap.size := h; omega))
      have HLV := Lib.hid hlv
      have HFI := Lib.hid HF
      have HZ := Lib.hid hz
      have HFT := fun v m neg w hv hm => Lib.hid (ref12_Fits v m neg w hv hm)
      have HGV := Lib.hid ((Far.of_grew (F := fun x => x = w1.heap.size) gV1).trans F2)
      have hev1 := hev.2.1
      have hev2 := hev.2.2
      have TV := Lib.hid ((T1.out.grew (g1.trans gV1)).far F2 (by show ¬ w.heap.size = _; omega))
      clear HF hz hlv s0 s1 HL hev n1 n2 hx hfr O2 F2 gV1
      go_wp2_with fail
      go_loopg [7] (zs.length) (fun kx s wr => ∃ k : Nat, k + kx = zs.length ∧ s = .int .i64 k ∧ Hid (Own w1.heap.size 5 .u8 wr (.slice (some ⟨w1.heap.size, 0, none⟩) n n) (bpayTo a l zs n k)) ∧ Hid (fitsTo l zs k = true) ∧ Hid (Far (fun x => x = w1.heap.size) V2 wr))
      case atStart => exact ⟨0, by omega, rfl, Lib.hid hO0, Lib.hid rfl, Lib.hid (Far.refl _ _)⟩
      case round =>
        obtain ⟨i, hi, rfl, hO, hft, hFa⟩ := hrel
        obtain ⟨_, s0, s1, _, _⟩ := TV.out.far hFa.out (by show ¬ w.heap.size = _; omega)
        by_cases hlt : i < zs.length
        · have h2K := H2K.out
          obtain ⟨p, m, neg, e1, e2, hm, hp1, hpm⟩ := HFI.out i (by omega)
          obtain ⟨lb, lo, rfl, hlb, hx1⟩ := HLV.out.at_ (i := 2 * i) (by omega)
          obtain ⟨lb', lo', e3, _, hx2⟩ := HLV.out.at_ (i := 2 * i + 1) (by omega)
          cases e3
          rw [e1] at hx1
          rw [e2] at hx2
          obtain ⟨zb, zo, rfl, hzb, hzx⟩ := HR.out.at_ (i := i) hlt
          have hzk := HZ.out i
          have hnx : Hid (bpayTo a l zs n (i + 1) = putBE (bpayTo a l zs n i) p m (zi zs i) m) := Lib.hid (by rw [bpayTo, e1, e2]; congr 1 <;> (cases neg <;> simp))
          have hfn := Lib.hid (show fitsTo l zs (i + 1) = (fitsTo l zs i && fitsZ (zi zs i) (zi l (2 * i + 1))) from rfl)
          rw [hft.out, Bool.true_and, e2] at hfn
          have hpl := bpayTo_length a l zs n i
          have HFW := fun w' => HFT (zi zs i) m neg w' hzk hm
          have y1 := (hFa.out.cell (p := ⟨lb, lo + 2 * i, none⟩) (Nat.lt_trans hlb hvl) (by show ¬ lb = _; omega)).trans ((HGV.out.cell (p := ⟨lb, lo + 2 * i, none⟩) hlb (by show ¬ lb = _; omega)).trans hx1)
          have y2 := (hFa.out.cell (p := ⟨lb, lo + (2 * i + 1), none⟩) (Nat.lt_trans hlb hvl) (by show ¬ lb = _; omega)).trans ((HGV.out.cell (p := ⟨lb, lo + (2 * i + 1), none⟩) hlb (by show ¬ lb = _; omega)).trans hx2)
          have hzr := (hFa.out.cell (p := ⟨zb, zo + i, none⟩) (Nat.lt_of_lt_of_le hzb GA.out.size) (by show ¬ zb = _; omega)).trans ((GA.out.cell (p := ⟨zb, zo + i, none⟩) hzb).trans hzx)
          have hzbn : ¬ zb = w1.heap.size := by omega
          have hlbn : ¬ lb = w1.heap.size := by omega
          clear hx1 hx2 hzx e1 e2
          generalize bpayTo a l zs n i = S at *
          generalize zi zs i = z at *
          have i1 : 2 * (i : Int) < l.length := by omega
          have i2 : 2 * (i : Int) + 1 < l.length := by omega
          have i3 : 0 ≤ 2 * (i : Int) := by omega
          have i4 : 0 ≤ 2 * (i : Int) + 1 := by omega
          have i5 : IntKind.i64.wrap (2 * (i : Int) + 1) = 2 * (i : Int) + 1 := IntWalk.i64_in _ (by omega)
          have i6 : (2 * (i : Int)).toNat = 2 * i := by omega
          have i7 : (2 * (i : Int) + 1).toNat = 2 * i + 1 := by omega
          have i8 : IntKind.i64.wrap (2 * (i : Int)) = 2 * (i : Int) := IntWalk.i64_in _ (by omega)
          clear h2K
          obtain ⟨Z, hZ⟩ : ∃ Z, (if neg then -(m : Int) else (m : Int)) = Z := ⟨_, rfl⟩
          rw [hZ] at y2 HFW hfn
          have hZp : Z = (m : Int) ∨ Z = -(m : Int) := by rw [← hZ]; cases neg <;> simp
          cases hfit : fitsZ z Z with
          | false =>
            rw [hfit] at hfn HFW
            have HPE : Hid (r = ([], 2)) := Lib.hid (by rw [HP'.out, if_neg (by rw [fits_noS hfn.out hlt]; decide)])
            have GR := Lib.hid (hFa.out.grew GA.out (fun x h => by have : x = w1.heap.size := h; omega))
            clear HP' hnx
            go_wp2_with (go_at_call 52; refine (HFW _).out.mono ?_; rintro e w3 ⟨rfl, g3⟩)
            go_ret2
            rw [HPE.out]
            exact payR_no (GR.out.trans g3)
          | true =>
            have hzin := fits_in hZp hm hfit
            rw [hfit] at hfn HFW
            go_upto_region 14 with (go_at_call 52; refine (HFW _).out.mono ?_; rintro e w3 ⟨rfl, g3⟩)
            have G3 := Lib.hid g3
            have hzb3 : zb < wr.heap.size := World.block_lt_of_cell? wr ⟨zb, zo + i, none⟩ hzr
            have hlb3 : lb < wr.heap.size := World.block_lt_of_cell? wr ⟨lb, lo + 2 * i, none⟩ y1
            have hz3 := (g3.cell (p := ⟨zb, zo + i, none⟩) hzb3).trans hzr
            have y3 := (g3.cell (p := ⟨lb, lo + 2 * i, none⟩) hlb3).trans y1
            have hws : w.heap.size < wr.heap.size := World.block_lt_of_cell? wr ⟨w.heap.size, 1, none⟩ s1
            have s3 := (g3.cell (p := ⟨w.heap.size, 1, none⟩) hws).trans s1
            have hlb4 : lb < w3.heap.size := Nat.lt_of_lt_of_le hlb3 g3.size
            clear y1 y2 hzr s0 s1 HFW hZ g3 hfit
            have c1 : ¬ (m : Int) < 0 := by omega
            have c2 : -(m : Int) < 0 := by omega
            have c3 : IntKind.i64.wrap (- -(m : Int)) = (m : Int) := by rw [Int.neg_neg]; exact IntWalk.i64_in _ (by omega)
            have c4 : IntKind.i64.wrap (m : Int) = (m : Int) := IntWalk.i64_in _ (by omega)
            have c5 : - -(m : Int) = (m : Int) := Int.neg_neg _
            have c6 : IntKind.i64.wrap ((m : Int) - 1) = (m : Int) - 1 := IntWalk.i64_in _ (by omega)
            rcases hZp with rfl | rfl
            all_goals
                go_upto_region 17 with fail
                clear c1 c2 c3 c4 c5 s3
                have OW3 := Lib.hid (hO.out.grew G3.out)
                go_wp2_with fail
                go_loopg [9, 10] m (fun kx s t wi => ∃ j : Nat, j + kx = m ∧ s = .int .i64 (z / ((256 ^ j : Nat) : Int)) ∧ t = .int .i64 ((m : Int) - 1 - (j : Int)) ∧ Hid (Own w1.heap.size 5 .u8 wi (.slice (some ⟨w1.heap.size, 0, none⟩) n n) (putBE S p m z j)) ∧ Hid (Far (fun x => x = w1.heap.size) w3 wi))
                case atStart => exact ⟨0, by omega, by simp, by simp, OW3, Lib.hid (Far.refl _ _)⟩
                case round =>
                  obtain ⟨j, hj, rfl, rfl, hOj, hFj⟩ := hrel
                  by_cases hlj : j < m
                  · have y4 := (hFj.out.cell (p := ⟨lb, lo + 2 * i, none⟩) hlb4 hlbn).trans y3
                    have hplj := putBE_length S p m z j
                    obtain ⟨hx, hfr⟩ := hOj.out.cellS (by omega) (p + (m - 1 - j)) (by omega)
                    have hin := ediv_in z j hzin
                    have hst := Lib.hid (ediv_step z j)
                    have hput : Hid (putBE S p m z (j + 1) = (putBE S p m z j).set (p + (m - 1 - j)) (byteZ z j)) := Lib.hid rfl
                    have hbz : z / ((256 ^ j : Nat) : Int) % 256 = (byteZ z j : Nat) := by unfold byteZ; omega
                    have bb := byteZ_lt z j
                    generalize z / ((256 ^ j : Nat) : Int) = Y at *
                    generalize byteZ z j = B at *
                    have hdv : (Y - (B : Int)).tdiv 256 = Y / 256 := by rw [← hbz]; exact tdiv_is Y
                    have hin2 : -9223372036854775808 ≤ Y / 256 ∧ Y / 256 ≤ 9223372036854775807 := by omega
                    generalize hY2 : Y / 256 = Y2 at *
                    have t3 : wrap64 Y2 = Y2 := IntWalk.wrap64_in _ hin2
                    have t4 : IntKind.i64.wrap (Y - (B : Int)) = Y - (B : Int) := IntWalk.i64_in _ (by omega)
                    have e0 : IntKind.i64.wrap ((p : Int) + ((m : Int) - 1 - (j : Int))) = ((p + (m - 1 - j) : Nat) : Int) := by rw [IntWalk.i64_in _ (by omega)]; omega
                    have e0' : (p : Int) + ((m : Int) - 1 - (j : Int)) = ((p + (m - 1 - j) : Nat) : Int) := by omega
                    have b2 : ((p + (m - 1 - j) : Nat) : Int) < n := by omega
                    have e3 : IntKind.u8.wrap (B : Int) = (B : Int) := IntWalk.u8_in _ (by omega)
                    have e4 : (B : Int) % 256 = (B : Int) := by omega
                    have d0 : (0 : Int) ≤ (m : Int) - 1 - (j : Int) := by omega
                    have d4 : IntKind.i64.wrap ((m : Int) - 1 - (j : Int) - 1) = (m : Int) - 1 - ((j + 1 : Nat) : Int) := by rw [IntWalk.i64_in _ (by omega)]; omega
                    have d5 : (m : Int) - 1 - (j : Int) - 1 = (m : Int) - 1 - ((j + 1 : Nat) : Int) := by omega
                    have hqn : p + (m - 1 - j) < (putBE S p m z j).length := by omega
                    generalize (m : Int) - 1 - (j : Int) = J at *
                    generalize p + (m - 1 - j) = q at *
                    clear hY2
                    rcases tmod_is Y with ⟨tn, te⟩ | ⟨tn, te⟩
                    · have t1 : Y.tmod 256 = (B : Nat) := te.trans hbz
                      have t2 : ¬ (B : Int) < 0 := by omega
                      clear hbz tn te
                      go_wp2_with fail
                      have O2 := hOj.out.set q B hqn
                      have F2 := hFj.out.setCell (p := ⟨w1.heap.size, q, none⟩) rfl (.int .u8 (B : Nat))
                      rw [← hput.out] at O2
                      generalize wr.setCell ⟨w1.heap.size, q, none⟩ (.int .u8 (B : Nat)) = V4 at *
                      have O3 := Lib.hid O2
                      have F3 := Lib.hid F2
                      clear O2 F2 hx hfr
                      go_roundg (m - (j + 1))
                      case measure => omega
                      case rel => exact ⟨j + 1, by omega, by rw [hst.out], by rw [Int.natCast_add]; rfl, O3, F3⟩
                    · have t1 : IntKind.i64.wrap (Y.tmod 256 + 256) = (B : Nat) := by rw [te, hbz]; exact IntWalk.i64_in _ (by omega)
                      have t2 : Y.tmod 256 + 256 = (B : Nat) := te.trans hbz
                      clear hbz te
                      go_wp2_with fail
                      have O2 := hOj.out.set q B hqn
                      have F2 := hFj.out.setCell (p := ⟨w1.heap.size, q, none⟩) rfl (.int .u8 (B : Nat))
                      rw [← hput.out] at O2
                      generalize wr.setCell ⟨w1.heap.size, q, none⟩ (.int .u8 (B : Nat)) = V4 at *
                      have O3 := Lib.hid O2
                      have F3 := Lib.hid F2
                      clear O2 F2 hx hfr
                      go_roundg (m - (j + 1))
                      case measure => omega
                      case rel => exact ⟨j + 1, by omega, by rw [hst.out], by rw [Int.natCast_add]; rfl, O3, F3⟩
                  · obtain rfl : j = m := by omega
                    have d9 : ¬ (0 : Int) ≤ (j : Int) - 1 - (j : Int) := by omega
                    rw [← hnx.out] at hOj
                    have F9 := Lib.hid ((hFa.out.trans (Far.of_grew G3.out)).trans hFj.out)
                    go_wp2_with fail
                    go_roundg (zs.length - (i + 1))
                    case measure => omega
                    case rel => exact ⟨i + 1, by omega, by go_num, hOj, hfn, F9⟩
        · obtain rfl : i = zs.length := by omega
          have HPO : Hid (r = (bpayTo a l zs n zs.length, 0)) := Lib.hid (by rw [HP'.out, if_pos hft.out])
          have OL := Lib.hid hO.out.lt
          have OR := Lib.hid hO.out.row
          have GR := Lib.hid (hFa.out.grew GA.out (fun x h => by have : x = w1.heap.size := h; omega))
          clear hO hFa HP' hft HFI HLV
          go_wp2_with fail
          go_ret2
          rw [HPO.out]
          exact ⟨_, rfl, OR.out, fun _ x hx => by have := OL.out x hx; omega, GR.out⟩
-- PAY]
end Go.Proofs.YtcdmbnbanopioaaGreatDoor

