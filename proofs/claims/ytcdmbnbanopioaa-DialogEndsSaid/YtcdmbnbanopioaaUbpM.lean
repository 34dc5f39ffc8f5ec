/-
  The program's table of UBX kinds: a map keyed by two bytes: an entry laid, an entry found.
-/
import Derived.Test.YtcdmbnbanopioaaLocM
import Derived.Test.YtcdmbnbanopioaaUbxM
import Derived.LoopTactic
import Derived.Deep.LoopGhost
import Derived.StillTailTactics
import Derived.Deep.QuietTactic
import Derived.BigQuiet
import Derived.ChangeMaps5
namespace Go.Proofs.Ytcdmbnbanopioaa
open Go.RowKit
set_option linter.unusedVariables false

theorem key_equal (w : World) (a b c d : Nat) : (Op.equal 95 (.agg #[.int .u8 (a : Nat), .int .u8 (b : Nat)]) (.agg #[.int .u8 (c : Nat), .int .u8 (d : Nat)])).run Try.prog w = .ok (a == c && b == d) w := by
  unfold Op.equal Op.maxDepth
  by_cases h1 : a = c
  · subst h1
    by_cases h2 : b = d
    · subst h2
      go_simp
    · have h2' : ¬ (b : Int) = d := by omega
      go_simp
  · have h1' : ¬ (a : Int) = c := by omega
    go_simp
theorem key_checkB (w : World) (em : Bool) (n : Nat) (x : Int) : (Instr.checkKey em (n + 1) 5 (.int .u8 x)).run Try.prog w = .ok () w := by
  unfold Instr.checkKey
  go_simp
theorem key_check (w : World) (em : Bool) (a b : Nat) : (Instr.checkKey em 10000 95 (.agg #[.int .u8 (a : Nat), .int .u8 (b : Nat)])).run Try.prog w = .ok () w := by
  have h := fun w x => key_checkB w em 9998 x
  unfold Instr.checkKey
  go_simp
theorem key_under : Try.prog.underlying 95 = some (.struct (Try.prog.fieldsOf 95)) := by kernel_rfl
theorem map_under : Try.prog.underlying 92 = some (.map 95 90) := by kernel_rfl
/-- A key. -/
def keyV (a b : Nat) : Value := .agg #[.int .u8 (a : Nat), .int .u8 (b : Nat)]
theorem ask_none (w : World) (a b : Nat) : ∀ (es : List MapEntry) (i : Nat), (∀ e ∈ es, ∃ c d : Nat, e.key = keyV c d ∧ (a == c && b == d) = false) → (Instr.findAsking 95 (keyV a b) es i).run Try.prog w = .ok none w
  | [], _, _ => rfl
  | e :: es, i, h => by
    obtain ⟨c, d, h1, h2⟩ := h e (by simp)
    have ih := ask_none w a b es (i + 1) (fun e he => h e (by simp [he]))
    simp only [Instr.findAsking, h1, keyV, Sem.run_bind, key_equal, h2, Result.andThen_ok, Bool.false_eq_true, if_false]
    exact ih
theorem ask_some (w : World) (a b : Nat) : ∀ (es : List MapEntry) (i : Nat), (∀ e ∈ es, ∃ c d : Nat, e.key = keyV c d) → (∃ e ∈ es, e.key = keyV a b) → ∃ e ∈ es, e.key = keyV a b ∧ ∃ j, (Instr.findAsking 95 (keyV a b) es i).run Try.prog w = .ok (some (j, e.val)) w
  | [], _, _, h => by obtain ⟨e, he, _⟩ := h; simp at he
  | e :: es, i, h, hx => by
    obtain ⟨c, d, h1⟩ := h e (by simp)
    by_cases q : (a == c && b == d) = true
    · have q2 := q
      simp only [Bool.and_eq_true, beq_iff_eq] at q2
      obtain ⟨rfl, rfl⟩ := q2
      refine ⟨e, by simp, h1, i, ?_⟩
      simp only [Instr.findAsking, h1, keyV, Sem.run_bind, key_equal, q, Result.andThen_ok, if_true, Sem.run_pure]
    · have q' : (a == c && b == d) = false := by simpa using q
      obtain ⟨e', he', h2, j, hr⟩ := ask_some w a b es (i + 1) (fun e he => h e (by simp [he])) (by
        obtain ⟨x, hx1, hx2⟩ := hx
        rcases List.mem_cons.1 hx1 with rfl | hx1
        · exfalso
          rw [h1] at hx2
          simp [keyV] at hx2
          obtain ⟨z1, z2⟩ := hx2
          exact q (by obtain rfl : c = a := by omega
                      obtain rfl : d = b := by omega
                      simp)
        · exact ⟨x, hx1, hx2⟩)
      refine ⟨e', by simp [he'], h2, j, ?_⟩
      simp only [Instr.findAsking, h1, keyV, Sem.run_bind, key_equal, q', Result.andThen_ok, Bool.false_eq_true, if_false]
      exact hr
theorem find_ask (w : World) (a b : Nat) (es : List MapEntry) (h : ∀ e ∈ es, ∃ c d : Nat, e.key = keyV c d) : (Instr.findKey 95 (keyV a b) es).run Try.prog w = (Instr.findAsking 95 (keyV a b) es).run Try.prog w := by
  cases es with
  | nil => simp only [Instr.findKey, Sem.run_bind, run_underlying key_under, Result.andThen_ok, Instr.findNow, Instr.findAsking]
  | cons e es =>
    obtain ⟨c, d, h1⟩ := h e (by simp)
    simp only [Instr.findKey, Sem.run_bind, run_underlying key_under, Result.andThen_ok, Instr.findNow, h1, keyV, Instr.sameNow]
/-- An entry is laid whose key is none of the map's. -/
theorem run_insert (w : World) (m a b : Nat) (es : Array MapEntry) (clk : Nat) (v : Value) (hm : w.heap[m]? = some (.map es clk)) (h : ∀ e ∈ es.toList, ∃ c d : Nat, e.key = keyV c d ∧ (a == c && b == d) = false) :
    (Instr.mapUpdate 92 (.map (some m)) (keyV a b) v).run Try.prog w = .ok () (Go.ChangeMaps.setBlock w m (.map (es.push { key := keyV a b, val := v, born := clk }) (clk + 1))) := by
  have hc := key_check w false a b
  have hf : (Instr.findKey 95 (keyV a b) es.toList).run Try.prog w = .ok none w := by
    rw [find_ask w a b _ (fun e he => by obtain ⟨c, d, h1, _⟩ := h e he; exact ⟨c, d, h1⟩)]
    exact ask_none w a b _ 0 h
  unfold Instr.mapUpdate
  simp only [Sem.run_bind, run_underlying map_under, Result.andThen_ok, MapKept.run_getObj_map hm, show (Instr.checkKey false 10000 95 (keyV a b)).run Try.prog w = .ok () w from hc, hf, MapKept.run_setObj_map _ hm]
  rfl
/-- A key that the map has; one that it has not. -/
theorem run_hit (w : World) (m a b : Nat) (es : Array MapEntry) (clk : Nat) (hm : w.heap[m]? = some (.map es clk)) (h : ∀ e ∈ es.toList, ∃ c d : Nat, e.key = keyV c d) (hx : ∃ e ∈ es.toList, e.key = keyV a b) :
    ∃ e ∈ es.toList, e.key = keyV a b ∧ (Instr.lookup 92 (.map (some m)) (keyV a b) true).run Try.prog w = .ok (.tuple #[e.val, .bool true]) w := by
  have hc := key_check w es.isEmpty a b
  obtain ⟨e, he, hk, j, hr⟩ := ask_some w a b es.toList 0 h hx
  rw [← find_ask w a b _ h] at hr
  refine ⟨e, he, hk, ?_⟩
  unfold Instr.lookup
  simp only [Sem.run_bind, run_underlying map_under, Result.andThen_ok, MapKept.run_getObj_map hm, Sem.run_pure, show (Instr.checkKey es.isEmpty 10000 95 (keyV a b)).run Try.prog w = .ok () w from hc, hr]
  rfl
theorem run_miss (w : World) (m a b : Nat) (es : Array MapEntry) (clk : Nat) (hm : w.heap[m]? = some (.map es clk)) (h : ∀ e ∈ es.toList, ∃ c d : Nat, e.key = keyV c d ∧ (a == c && b == d) = false) :
    (Instr.lookup 92 (.map (some m)) (keyV a b) true).run Try.prog w = .ok (.tuple #[.agg #[.int .i64 0, .slice none 0 0], .bool false]) w := by
  have hc := key_check w es.isEmpty a b
  have hf : (Instr.findKey 95 (keyV a b) es.toList).run Try.prog w = .ok none w := by
    rw [find_ask w a b _ (fun e he => by obtain ⟨c, d, h1, _⟩ := h e he; exact ⟨c, d, h1⟩)]
    exact ask_none w a b _ 0 h
  have hz : (zeroValue 90).run Try.prog w = .ok (.agg #[.int .i64 0, .slice none 0 0]) w := by go_simp
  unfold Instr.lookup
  simp only [Sem.run_bind, run_underlying map_under, Result.andThen_ok, MapKept.run_getObj_map hm, Sem.run_pure, show (Instr.checkKey es.isEmpty 10000 95 (keyV a b)).run Try.prog w = .ok () w from hc, hf, hz]
  rfl
/-- Kinds of places of their own, of keys of their own. -/
structure KGood (K : List KRow) : Prop where
  at_ : K.Pairwise fun x y => x.at_ ≠ y.at_
  key : K.Pairwise fun x y => (x.a == y.a && x.b == y.b) = false
theorem pair_inj {α : Type} {R : α → α → Prop} : ∀ {K : List α}, K.Pairwise R → ∀ {x y : α}, x ∈ K → y ∈ K → x = y ∨ R x y ∨ R y x
  | [], _, _, _, h, _ => by simp at h
  | z :: K, h, x, y, hx, hy => by
    obtain ⟨h1, h2⟩ := List.pairwise_cons.1 h
    rcases List.mem_cons.1 hx with ex | hx'
    · rcases List.mem_cons.1 hy with ey | hy'
      · exact .inl (ex.trans ey.symm)
      · exact .inr (.inl (ex ▸ h1 y hy'))
    · rcases List.mem_cons.1 hy with ey | hy'
      · exact .inr (.inr (ey ▸ h1 x hx'))
      · exact pair_inj h2 hx' hy'
theorem KGood.one {K : List KRow} (h : KGood K) {x y : KRow} (hx : x ∈ K) (hy : y ∈ K) (e : x.at_ = y.at_) : x = y := by
  rcases pair_inj h.at_ hx hy with q | q | q
  · exact q
  · exact absurd e q
  · exact absurd e.symm q
theorem KGood.unlike {K : List KRow} (h : KGood K) {x y : KRow} (hx : x ∈ K) (hy : y ∈ K) (e : x ≠ y) : (x.a == y.a && x.b == y.b) = false := by
  rcases pair_inj h.key hx hy with q | q | q
  · exact absurd q e
  · exact q
  · rw [← q, show (x.a == y.a) = (y.a == x.a) from Bool.beq_comm, show (x.b == y.b) = (y.b == x.b) from Bool.beq_comm]
theorem km_insert {Q : Exit → Act → World → Prop} {o : Oper} {a : Act} {w W : World} {E : TypeId} {K : List KRow} {L : Nat → Bool} {ops : Array Oper} {sh : Nat → KShape} {i : Nat} {tm tk tv : Tmp} {k : KRow}
    (hK : KGood K) (hk : k ∈ K) (hi : k.at_ = i) (hdst : o.dst = none) (hop : o.op = .insert 92 (.tmp tm) (.tmp tk) (.tmp tv)) (hL : L i = false)
    (hd : ∀ j d, L j = true → writes ops j d = true → KLeft E W K L (sh j) w (a.tmps[d]?.getD undef)) (hc : ∀ j k, L j = true → waitsAt ops j k = true → L k = true) (g : Grew W w)
    (hmaps : ((List.range ops.size).all fun j => (match sh j with | .inr (.inr (.inr _)) => j == 0 || waitsAt ops j i | _ => true)) = true) (h0 : sh 0 = .inr (.inr (.inr ()))) (hw0 : writes ops 0 tm = true)
    (hm : KLeft E W K L (.inr (.inr (.inr ()))) w (a.tmps[tm]?.getD undef)) (ek : a.tmps[tk]?.getD undef = keyV k.a k.b) (ev : KLeft E W K L (.inr (.inr (.inl (k.len, k.cs)))) w (a.tmps[tv]?.getD undef)) :
    o.wp Try.prog a w (fun a' w' => ∃ v, a' = a.put o.dst v ∧ (∀ d, o.dst = some d → KLeft E W K (also L i) (sh i) w' v) ∧ (∀ j d, L j = true → writes ops j d = true → KLeft E W K (also L i) (sh j) w' (a.tmps[d]?.getD undef)) ∧ Grew W w') Q := by
  obtain ⟨m, em, hWm, es, clk, hb, h1, h2⟩ := hm
  obtain ⟨b, n, evv, hn, hcs⟩ := ev
  have hkeys : ∀ e ∈ es.toList, ∃ c d : Nat, e.key = keyV c d ∧ (k.a == c && k.b == d) = false := fun e he => by
    obtain ⟨k', hk', hl, hx, _⟩ := h1 e he
    refine ⟨k'.a, k'.b, hx, hK.unlike hk hk' (fun q => ?_)⟩
    subst q
    rw [hi, hL] at hl
    cases hl
  have hrun := run_insert w m k.a k.b es clk (a.tmps[tv]?.getD undef) hb hkeys
  obtain ⟨w1, hw1⟩ : ∃ w1, Go.ChangeMaps.setBlock w m (.map (es.push { key := keyV k.a k.b, val := a.tmps[tv]?.getD undef, born := clk }) (clk + 1)) = w1 := ⟨_, rfl⟩
  have hnew : w1.heap[m]? = some (.map (es.push { key := keyV k.a k.b, val := a.tmps[tv]?.getD undef, born := clk }) (clk + 1)) := by rw [← hw1]; exact Go.ChangeMaps.heap_setBlock_same hb _
  have hgb : w.grownBy w1 (some m) := by
    rw [← hw1]
    exact ⟨rfl, rfl, rfl, by simp [Go.ChangeMaps.setBlock], fun i _ hi => Go.ChangeMaps.heap_setBlock_other hb _ (fun e => hi (by rw [e]))⟩
  have hkept : KKept w w1 := fun b' cs E' fr h => by
    have hne : b' ≠ m := fun e => by subst e; rw [hb] at h; cases h
    exact (hgb.block b' (Array.getElem?_eq_some_iff.1 h).1 (fun e => hne (by simpa using e))).trans h
  have hG : Grew W w1 := Below.grown g hgb g.size (fun b' hb' => by simp at hb'; subst hb'; exact hWm)
  rw [hw1] at hrun
  have hmap : KMap E W K (also L i) w1 m := by
    refine ⟨hWm, _, _, hnew, fun e he => ?_, fun k' hk' hl => ?_⟩
    · simp only [Array.toList_push, List.mem_append, List.mem_singleton] at he
      rcases he with he | rfl
      · obtain ⟨k', hk', hl, hx⟩ := h1 e he
        exact ⟨k', hk', by unfold also; rw [hl, Bool.or_true], hx.kept hkept⟩
      · exact ⟨k, hk, by unfold also; rw [hi]; simp, rfl, b, n, evv, hn, hkept _ _ _ _ hcs⟩
    · by_cases e : k'.at_ = i
      · obtain rfl := hK.one hk' hk (e.trans hi.symm)
        exact ⟨_, by simp only [Array.toList_push, List.mem_append, List.mem_singleton]; exact .inr rfl, rfl, b, n, evv, hn, hkept _ _ _ _ hcs⟩
      · rw [also_ne e] at hl
        obtain ⟨e', he', hx⟩ := h2 k' hk' hl
        exact ⟨e', by simp only [Array.toList_push, List.mem_append]; exact .inl he', hx.kept hkept⟩
  have hrest : ∀ j d, L j = true → writes ops j d = true → KLeft E W K (also L i) (sh j) w1 (a.tmps[d]?.getD undef) := fun j d hl hw => by
    have hx := hd j d hl hw
    have hjs : j < ops.size := by
      unfold writes at hw
      split at hw
      · cases hw
      · exact (Array.getElem?_eq_some_iff.1 ‹_›).1
    have hmj := List.all_eq_true.1 hmaps j (List.mem_range.2 hjs)
    cases hs : sh j with
    | inl x => rw [hs] at hx; exact hx
    | inr s =>
      cases s with
      | inl cs => rw [hs] at hx; obtain ⟨b, n, q1, q2, q3⟩ := hx; exact ⟨b, n, q1, q2, hkept _ _ _ _ q3⟩
      | inr s =>
        cases s with
        | inl p => rw [hs] at hx; obtain ⟨b, n, q1, q2, q3⟩ := hx; exact ⟨b, n, q1, q2, hkept _ _ _ _ q3⟩
        | inr u =>
          rw [hs] at hmj
          simp only [Bool.or_eq_true, beq_iff_eq] at hmj
          rcases hmj with rfl | hmj
          · have : d = tm := by
              unfold writes at hw hw0
              cases hq : ops[0]? with
              | none => rw [hq] at hw; cases hw
              | some p =>
                rw [hq] at hw hw0
                simp only [beq_iff_eq] at hw hw0
                exact Option.some.inj (hw.symm.trans hw0)
            subst this
            exact ⟨m, em, hmap⟩
          · have := hc j i hl hmj
            rw [hL] at this
            cases this
  have hex : (execOp a.eval o).run Try.prog w = .ok .skip w1 := by
    have e1 : a.eval (.tmp tm) = .map (some m) := by simpa [go_sem] using em
    have e2 : a.eval (.tmp tk) = keyV k.a k.b := by simpa [go_sem] using ek
    have e3 : a.eval (.tmp tv) = a.tmps[tv]?.getD undef := by simp [go_sem]
    simp [execOp, hop, e1, e2, e3, hrun, Result.andThen]
  unfold Oper.wp
  rw [hex]
  refine ⟨undef, ?_, fun d hd' => (by rw [hdst] at hd'; cases hd'), hrest, hG⟩
  rw [hdst]
  try rfl
end Go.Proofs.Ytcdmbnbanopioaa
