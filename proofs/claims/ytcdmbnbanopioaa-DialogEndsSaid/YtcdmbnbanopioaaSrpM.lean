/-
  The program's table of SiRF kinds: a map keyed by a byte: an entry laid, an entry found.
-/
import Derived.Test.YtcdmbnbanopioaaLocM
import Derived.Test.YtcdmbnbanopioaaUbxM
import Derived.LoopTactic
import Derived.Deep.LoopGhost
import Derived.StillTailTactics
import Derived.Deep.QuietTactic
import Derived.BigQuiet
import Derived.ChangeMaps5
namespace Go.Proofs.Ytcdmbnbanopioaa
open Go.RowKit
set_option linter.unusedVariables false

/-- An entry of the map: a kind's. -/
def SEntry (E : TypeId) (w : World) (k : KRow) (e : MapEntry) : Prop :=
  e.key = .int .u8 (k.a : Nat) ∧ ∃ b n, e.val = .agg #[.int .i64 (k.len : Nat), .slice (some ⟨b, 0, none⟩) n n] ∧ n = k.cs.length / 3 ∧ w.heap[b]? = some (.cells k.cs.toArray E)
def SMap (E : TypeId) (W : World) (K : List KRow) (L : Nat → Bool) (w : World) (m : Nat) : Prop :=
  W.heap.size ≤ m ∧ ∃ es clk, w.heap[m]? = some (.map es clk) ∧ (∀ e ∈ es.toList, ∃ k ∈ K, L k.at_ = true ∧ SEntry E w k e) ∧ (∀ k ∈ K, L k.at_ = true → ∃ e ∈ es.toList, SEntry E w k e)
def SLeft (E : TypeId) (W : World) (K : List KRow) (L : Nat → Bool) (s : KShape) (w : World) (v : Value) : Prop :=
  match s with
  | .inl x => v = x
  | .inr (.inl cs) => ∃ b n, v = .slice (some ⟨b, 0, none⟩) n n ∧ n = cs.length / 3 ∧ w.heap[b]? = some (.cells cs.toArray E)
  | .inr (.inr (.inl p)) => ∃ b n, v = .agg #[.int .i64 (p.1 : Nat), .slice (some ⟨b, 0, none⟩) n n] ∧ n = p.2.length / 3 ∧ w.heap[b]? = some (.cells p.2.toArray E)
  | .inr (.inr (.inr _)) => ∃ m, v = .map (some m) ∧ SMap E W K L w m
theorem SEntry.kept {E : TypeId} {w w' : World} {k : KRow} {e : MapEntry} (h : SEntry E w k e) (g : KKept w w') : SEntry E w' k e := by
  obtain ⟨h1, b, n, h2, h3, h4⟩ := h
  exact ⟨h1, b, n, h2, h3, g _ _ _ _ h4⟩
theorem SMap.also {E : TypeId} {W : World} {K : List KRow} {L : Nat → Bool} {w w' : World} {m i : Nat} (h : SMap E W K L w m) (g : Grew w w') (hi : ∀ k ∈ K, k.at_ ≠ i) : SMap E W K (also L i) w' m := by
  obtain ⟨h0, es, clk, h1, h2, h3⟩ := h
  refine ⟨h0, es, clk, (Below.block g m (Array.getElem?_eq_some_iff.1 h1).1).trans h1, fun e he => ?_, fun k hk hl => ?_⟩
  · obtain ⟨k, hk, hl, he⟩ := h2 e he
    exact ⟨k, hk, by rw [also_ne (hi k hk)]; exact hl, he.kept (.of_grew g)⟩
  · rw [also_ne (hi k hk)] at hl
    obtain ⟨e, he, hx⟩ := h3 k hk hl
    exact ⟨e, he, hx.kept (.of_grew g)⟩
theorem SLeft.also {E : TypeId} {W : World} {K : List KRow} {L : Nat → Bool} {s : KShape} {w w' : World} {v : Value} {i : Nat} (h : SLeft E W K L s w v) (g : Grew w w') (hi : ∀ k ∈ K, k.at_ ≠ i) : SLeft E W K (also L i) s w' v := by
  rcases s with x | cs | p | u
  · exact h
  · obtain ⟨b, n, h1, h2, h3⟩ := h
    exact ⟨b, n, h1, h2, KKept.of_grew g _ _ _ _ h3⟩
  · obtain ⟨b, n, h1, h2, h3⟩ := h
    exact ⟨b, n, h1, h2, KKept.of_grew g _ _ _ _ h3⟩
  · obtain ⟨m, h1, h2⟩ := h
    exact ⟨m, h1, h2.also g hi⟩

section
variable {P : Program} {Q : Exit → Act → World → Prop} {o : Oper} {a : Act} {w w1 W : World} {E : TypeId} {K : List KRow} {L : Nat → Bool} {ops : Array Oper} {sh : Nat → KShape} {i : Nat}
theorem sm_of (hd : ∀ j d, L j = true → writes ops j d = true → SLeft E W K L (sh j) w (a.tmps[d]?.getD undef)) (g : Grew W w) (hi : K.all (fun k => k.at_ != i) = true)
    (h : o.wp P a w (fun a' w'' => ∃ v, a' = a.put o.dst v ∧ SLeft E W K (also L i) (sh i) w'' v ∧ Grew w w'') Q) :
    o.wp P a w (fun a' w' => ∃ v, a' = a.put o.dst v ∧ (∀ d, o.dst = some d → SLeft E W K (also L i) (sh i) w' v) ∧ (∀ j d, L j = true → writes ops j d = true → SLeft E W K (also L i) (sh j) w' (a.tmps[d]?.getD undef)) ∧ Grew W w') Q :=
  Oper.wp_mono (fun a' w' ⟨v, h1, h2, h3⟩ => ⟨v, h1, fun _ _ => h2, fun j d hl hw => (hd j d hl hw).also h3 (fun k hk => by have := List.all_eq_true.1 hi k hk; simpa using this), g.trans h3⟩) h
end
theorem byte_under : Try.prog.underlying 5 = some (.int .u8) := by kernel_rfl
theorem smap_under : Try.prog.underlying 103 = some (.map 5 101) := by kernel_rfl
theorem byte_key (a : Nat) : MapKept.IsKey (.int .u8) (.int .u8 (a : Nat)) := by simp [MapKept.IsKey]
theorem skey_ne {a b : Nat} (h : a ≠ b) : ¬ (Value.int .u8 (a : Nat)) = .int .u8 (b : Nat) := by
  intro e
  simp at e
  omega
/-- An entry is laid whose key is none of the map's. -/
theorem srun_insert (w : World) (m a : Nat) (es : Array MapEntry) (clk : Nat) (v : Value) (hm : w.heap[m]? = some (.map es clk)) (h : ∀ e ∈ es.toList, ∃ c : Nat, e.key = .int .u8 (c : Nat) ∧ a ≠ c) :
    (Instr.mapUpdate 103 (.map (some m)) (.int .u8 (a : Nat)) v).run Try.prog w = .ok () (Go.ChangeMaps.setBlock w m (.map (es.push { key := .int .u8 (a : Nat), val := v, born := clk }) (clk + 1))) := by
  have hks : ∀ x ∈ es.toList, MapKept.IsKey (.int .u8) x.key := fun x hx => by obtain ⟨c, e, _⟩ := h x hx; rw [e]; exact byte_key c
  rcases MapKept.findNow_spec (byte_key a) es.toList 0 hks with ⟨h1, _⟩ | ⟨j, e, _, h2, h3⟩
  · unfold Instr.mapUpdate
    simp only [Sem.run_bind, run_underlying smap_under, Result.andThen_ok, MapKept.run_getObj_map hm, MapKept.run_checkKey byte_under (byte_key a), MapKept.run_findKey byte_under h1, MapKept.run_setObj_map _ hm]
    rfl
  · exfalso
    obtain ⟨c, e1, e2⟩ := h e (List.mem_of_getElem? h2)
    exact skey_ne e2 (h3.symm.trans e1)
/-- A key that the map has; one that it has not. -/
theorem srun_hit (w : World) (m a : Nat) (es : Array MapEntry) (clk : Nat) (hm : w.heap[m]? = some (.map es clk)) (h : ∀ e ∈ es.toList, ∃ c : Nat, e.key = .int .u8 (c : Nat)) (hx : ∃ e ∈ es.toList, e.key = .int .u8 (a : Nat)) :
    ∃ e ∈ es.toList, e.key = .int .u8 (a : Nat) ∧ (Instr.lookup 103 (.map (some m)) (.int .u8 (a : Nat)) true).run Try.prog w = .ok (.tuple #[e.val, .bool true]) w := by
  have hks : ∀ x ∈ es.toList, MapKept.IsKey (.int .u8) x.key := fun x hx => by obtain ⟨c, e⟩ := h x hx; rw [e]; exact byte_key c
  rcases MapKept.findNow_spec (byte_key a) es.toList 0 hks with ⟨_, h1⟩ | ⟨j, e, h1, h2, h3⟩
  · obtain ⟨e, he, hk⟩ := hx
    exact absurd hk (h1 e he)
  · refine ⟨e, List.mem_of_getElem? h2, h3, ?_⟩
    unfold Instr.lookup
    simp only [Sem.run_bind, run_underlying smap_under, Result.andThen_ok, MapKept.run_getObj_map hm, Sem.run_pure, MapKept.run_checkKey byte_under (byte_key a), MapKept.run_findKey byte_under h1]
    rfl
theorem srun_miss (w : World) (m a : Nat) (es : Array MapEntry) (clk : Nat) (hm : w.heap[m]? = some (.map es clk)) (h : ∀ e ∈ es.toList, ∃ c : Nat, e.key = .int .u8 (c : Nat) ∧ a ≠ c) :
    (Instr.lookup 103 (.map (some m)) (.int .u8 (a : Nat)) true).run Try.prog w = .ok (.tuple #[.agg #[.int .i64 0, .slice none 0 0], .bool false]) w := by
  have hks : ∀ x ∈ es.toList, MapKept.IsKey (.int .u8) x.key := fun x hx => by obtain ⟨c, e, _⟩ := h x hx; rw [e]; exact byte_key c
  have hz : (zeroValue 101).run Try.prog w = .ok (.agg #[.int .i64 0, .slice none 0 0]) w := by go_simp
  rcases MapKept.findNow_spec (byte_key a) es.toList 0 hks with ⟨h1, _⟩ | ⟨j, e, _, h2, h3⟩
  · unfold Instr.lookup
    simp only [Sem.run_bind, run_underlying smap_under, Result.andThen_ok, MapKept.run_getObj_map hm, Sem.run_pure, MapKept.run_checkKey byte_under (byte_key a), MapKept.run_findKey byte_under h1, hz]
    rfl
  · exfalso
    obtain ⟨c, e1, e2⟩ := h e (List.mem_of_getElem? h2)
    exact skey_ne e2 (h3.symm.trans e1)
/-- Kinds of places of their own, of keys of their own. -/
structure SGood (K : List KRow) : Prop where
  at_ : K.Pairwise fun x y => x.at_ ≠ y.at_
  key : K.Pairwise fun x y => x.a ≠ y.a
theorem spair_inj {α : Type} {R : α → α → Prop} : ∀ {K : List α}, K.Pairwise R → ∀ {x y : α}, x ∈ K → y ∈ K → x = y ∨ R x y ∨ R y x
  | [], _, _, _, h, _ => by simp at h
  | z :: K, h, x, y, hx, hy => by
    obtain ⟨h1, h2⟩ := List.pairwise_cons.1 h
    rcases List.mem_cons.1 hx with ex | hx'
    · rcases List.mem_cons.1 hy with ey | hy'
      · exact .inl (ex.trans ey.symm)
      · exact .inr (.inl (ex ▸ h1 y hy'))
    · rcases List.mem_cons.1 hy with ey | hy'
      · exact .inr (.inr (ey ▸ h1 x hx'))
      · exact spair_inj h2 hx' hy'
theorem SGood.one {K : List KRow} (h : SGood K) {x y : KRow} (hx : x ∈ K) (hy : y ∈ K) (e : x.at_ = y.at_) : x = y := by
  rcases spair_inj h.at_ hx hy with q | q | q
  · exact q
  · exact absurd e q
  · exact absurd e.symm q
theorem SGood.unlike {K : List KRow} (h : SGood K) {x y : KRow} (hx : x ∈ K) (hy : y ∈ K) (e : x ≠ y) : x.a ≠ y.a := by
  rcases spair_inj h.key hx hy with q | q | q
  · exact absurd q e
  · exact q
  · exact q.symm
theorem sm_insert {Q : Exit → Act → World → Prop} {o : Oper} {a : Act} {w W : World} {E : TypeId} {K : List KRow} {L : Nat → Bool} {ops : Array Oper} {sh : Nat → KShape} {i : Nat} {tm tv : Tmp} {k : KRow}
    (hK : SGood K) (hk : k ∈ K) (hi : k.at_ = i) (hdst : o.dst = none) (hop : o.op = .insert 103 (.tmp tm) (.const (.int .u8 (k.a : Nat))) (.tmp tv)) (hL : L i = false)
    (hd : ∀ j d, L j = true → writes ops j d = true → SLeft E W K L (sh j) w (a.tmps[d]?.getD undef)) (hc : ∀ j k, L j = true → waitsAt ops j k = true → L k = true) (g : Grew W w)
    (hmaps : ((List.range ops.size).all fun j => (match sh j with | .inr (.inr (.inr _)) => j == 0 || waitsAt ops j i | _ => true)) = true) (h0 : sh 0 = .inr (.inr (.inr ()))) (hw0 : writes ops 0 tm = true)
    (hm : SLeft E W K L (.inr (.inr (.inr ()))) w (a.tmps[tm]?.getD undef)) (ev : SLeft E W K L (.inr (.inr (.inl (k.len, k.cs)))) w (a.tmps[tv]?.getD undef)) :
    o.wp Try.prog a w (fun a' w' => ∃ v, a' = a.put o.dst v ∧ (∀ d, o.dst = some d → SLeft E W K (also L i) (sh i) w' v) ∧ (∀ j d, L j = true → writes ops j d = true → SLeft E W K (also L i) (sh j) w' (a.tmps[d]?.getD undef)) ∧ Grew W w') Q := by
  obtain ⟨m, em, hWm, es, clk, hb, h1, h2⟩ := hm
  obtain ⟨b, n, evv, hn, hcs⟩ := ev
  have hkeys : ∀ e ∈ es.toList, ∃ c : Nat, e.key = .int .u8 (c : Nat) ∧ k.a ≠ c := fun e he => by
    obtain ⟨k', hk', hl, hx, _⟩ := h1 e he
    refine ⟨k'.a, hx, hK.unlike hk hk' (fun q => ?_)⟩
    subst q
    rw [hi, hL] at hl
    cases hl
  have hrun := srun_insert w m k.a es clk (a.tmps[tv]?.getD undef) hb hkeys
  obtain ⟨w1, hw1⟩ : ∃ w1, Go.ChangeMaps.setBlock w m (.map (es.push { key := .int .u8 (k.a : Nat), val := a.tmps[tv]?.getD undef, born := clk }) (clk + 1)) = w1 := ⟨_, rfl⟩
  have hnew : w1.heap[m]? = some (.map (es.push { key := .int .u8 (k.a : Nat), val := a.tmps[tv]?.getD undef, born := clk }) (clk + 1)) := by rw [← hw1]; exact Go.ChangeMaps.heap_setBlock_same hb _
  have hgb : w.grownBy w1 (some m) := by
    rw [← hw1]
    exact ⟨rfl, rfl, rfl, by simp [Go.ChangeMaps.setBlock], fun i _ hi => Go.ChangeMaps.heap_setBlock_other hb _ (fun e => hi (by rw [e]))⟩
  have hkept : KKept w w1 := fun b' cs E' fr h => by
    have hne : b' ≠ m := fun e => by subst e; rw [hb] at h; cases h
    exact (hgb.block b' (Array.getElem?_eq_some_iff.1 h).1 (fun e => hne (by simpa using e))).trans h
  have hG : Grew W w1 := Below.grown g hgb g.size (fun b' hb' => by simp at hb'; subst hb'; exact hWm)
  rw [hw1] at hrun
  have hmap : SMap E W K (also L i) w1 m := by
    refine ⟨hWm, _, _, hnew, fun e he => ?_, fun k' hk' hl => ?_⟩
    · simp only [Array.toList_push, List.mem_append, List.mem_singleton] at he
      rcases he with he | rfl
      · obtain ⟨k', hk', hl, hx⟩ := h1 e he
        exact ⟨k', hk', by unfold also; rw [hl, Bool.or_true], hx.kept hkept⟩
      · exact ⟨k, hk, by unfold also; rw [hi]; simp, rfl, b, n, evv, hn, hkept _ _ _ _ hcs⟩
    · by_cases e : k'.at_ = i
      · obtain rfl := hK.one hk' hk (e.trans hi.symm)
        exact ⟨_, by simp only [Array.toList_push, List.mem_append, List.mem_singleton]; exact .inr rfl, rfl, b, n, evv, hn, hkept _ _ _ _ hcs⟩
      · rw [also_ne e] at hl
        obtain ⟨e', he', hx⟩ := h2 k' hk' hl
        exact ⟨e', by simp only [Array.toList_push, List.mem_append]; exact .inl he', hx.kept hkept⟩
  have hrest : ∀ j d, L j = true → writes ops j d = true → SLeft E W K (also L i) (sh j) w1 (a.tmps[d]?.getD undef) := fun j d hl hw => by
    have hx := hd j d hl hw
    have hjs : j < ops.size := by
      unfold writes at hw
      split at hw
      · cases hw
      · exact (Array.getElem?_eq_some_iff.1 ‹_›).1
    have hmj := List.all_eq_true.1 hmaps j (List.mem_range.2 hjs)
    cases hs : sh j with
    | inl x => rw [hs] at hx; exact hx
    | inr s =>
      cases s with
      | inl cs => rw [hs] at hx; obtain ⟨b, n, q1, q2, q3⟩ := hx; exact ⟨b, n, q1, q2, hkept _ _ _ _ q3⟩
      | inr s =>
        cases s with
        | inl p => rw [hs] at hx; obtain ⟨b, n, q1, q2, q3⟩ := hx; exact ⟨b, n, q1, q2, hkept _ _ _ _ q3⟩
        | inr u =>
          rw [hs] at hmj
          simp only [Bool.or_eq_true, beq_iff_eq] at hmj
          rcases hmj with rfl | hmj
          · have : d = tm := by
              unfold writes at hw hw0
              cases hq : ops[0]? with
              | none => rw [hq] at hw; cases hw
              | some p =>
                rw [hq] at hw hw0
                simp only [beq_iff_eq] at hw hw0
                exact Option.some.inj (hw.symm.trans hw0)
            subst this
            exact ⟨m, em, hmap⟩
          · have := hc j i hl hmj
            rw [hL] at this
            cases this
  have hex : (execOp a.eval o).run Try.prog w = .ok .skip w1 := by
    have e1 : a.eval (.tmp tm) = .map (some m) := by simpa [go_sem] using em
    have e2 : a.eval (.const (.int .u8 (k.a : Nat))) = .int .u8 (k.a : Nat) := rfl
    have e3 : a.eval (.tmp tv) = a.tmps[tv]?.getD undef := by simp [go_sem]
    simp [execOp, hop, e1, e2, e3, hrun, Result.andThen]
  unfold Oper.wp
  rw [hex]
  refine ⟨undef, ?_, fun d hd' => (by rw [hdst] at hd'; cases hd'), hrest, hG⟩
  rw [hdst]
  try rfl
end Go.Proofs.Ytcdmbnbanopioaa
