/-
  Pairings, plain: as the program holds them, as the document's list of all that came; that both tell the same.
-/
import Derived.Test.YtkijonnbngnliaaEdgL
namespace Go.Proofs.Ytkijonnbngnliaa
open Go.RowKit
set_option linter.unusedVariables false

/-- A message, plain. -/
structure Ms where
  kind : Int
  utc : Bool
  sec : Int
  leap : Bool
  cycle : Int
  next : Bool
def noMs : Ms := ⟨0, false, 0, false, 0, false⟩
/-- A pair. -/
structure Pd where
  edge : Int
  msg : Ms
def noPd : Pd := ⟨0, noMs⟩
def Pd.value (p : Pd) : Value := .agg #[.int .i64 p.edge, .int .u8 p.msg.kind, .bool p.msg.utc, .int .i64 p.msg.sec, .bool p.msg.leap, .int .i64 p.msg.cycle, .bool p.msg.next]
def Ms.value (m : Ms) : Value := .agg #[.int .u8 m.kind, .bool m.utc, .int .i64 m.sec, .bool m.leap, .int .i64 m.cycle, .bool m.next]
/-- What a call tells: a pair, or none. -/
def pdV (r : Option Pd) : Value := (r.getD noPd).value
/-- A pairing as the program holds it: the edges that are kept, the window, the greatest counter that came, whether the last edge is in a pair, the message that waits. -/
structure Pg where
  L : List Int
  win : Int
  latest : Int
  taken : Bool
  waits : Option (Int × Ms)
def pgNew (win : Int) : Pg := ⟨[], win, 0, false, none⟩
/-- Whether the message that waits is paired with an edge at that counter. -/
def Pg.meets (g : Pg) (c : Int) : Bool := match g.waits with
  | some q => decide (c - q.1 ≤ g.win)
  | none => false
def Pg.edged (g : Pg) (c : Int) : Pg := ⟨pushE g.L c, g.win, c, g.meets c, none⟩
def Pg.edge (g : Pg) (c : Int) : Pg := if c < g.latest then g else g.edged c
def Pg.edgeP (g : Pg) (c : Int) : Option Pd := if c < g.latest then none else if g.meets c then g.waits.map fun q => ⟨c, q.2⟩ else none
/-- Whether a message that is not Next is paired with the last edge. -/
def Pg.free (g : Pg) (m : Int) : Bool := !g.taken && decide (cntE g.L (m - g.win) m g.L.length = 1)
def Pg.msg (g : Pg) (m : Int) (x : Ms) : Pg :=
  if m < g.latest then g else if x.next then ⟨g.L, g.win, m, g.taken, some (m, x)⟩ else ⟨g.L, g.win, m, g.taken || g.free m, g.waits⟩
def Pg.msgP (g : Pg) (m : Int) (x : Ms) : Option Pd := if m < g.latest then none else if x.next then none else if g.free m then some ⟨lastE g.L, x⟩ else none
/-- What holds of a pairing whatever came. -/
structure PgOk (g : Pg) : Prop where
  kw : 100000000 ≤ g.win ∧ g.win ≤ 900000000
  kl : 0 ≤ g.latest ∧ g.latest ≤ 9223372036854775807
  len : g.L.length ≤ 8
  last : 0 ≤ lastE g.L ∧ lastE g.L ≤ g.latest
  below : ∀ i, i < g.L.length → zi g.L i ≤ lastE g.L
  kq : ∀ q, g.waits = some q → 0 ≤ q.1 ∧ q.1 ≤ g.latest
theorem lastE_push (L : List Int) (c : Int) : lastE (pushE L c) = c := by
  unfold pushE lastE
  split
  · rw [if_neg (by simp), zi_lt (by simp)]
    simp
  · rw [if_neg (by simp), zi_lt (by simp)]
    simp
theorem zi_push (L : List Int) (c : Int) (i : Nat) (h : i < (pushE L c).length) : zi (pushE L c) i = c ∨ ∃ j, j < L.length ∧ zi (pushE L c) i = zi L j := by
  rw [zi_lt h]
  have hm : (pushE L c)[i] ∈ pushE L c := List.getElem_mem h
  generalize (pushE L c)[i] = y at *
  unfold pushE at hm
  have key : ∀ x, x ∈ L → ∃ j, j < L.length ∧ x = zi L j := fun x hx => by
    obtain ⟨j, hj, rfl⟩ := List.getElem_of_mem hx
    exact ⟨j, hj, (zi_lt hj).symm⟩
  split at hm
  · rcases List.mem_append.1 hm with q | q
    · exact .inr (key _ q)
    · exact .inl (by simpa using q)
  · rcases List.mem_append.1 hm with q | q
    · exact .inr (key _ (List.mem_of_mem_drop q))
    · exact .inl (by simpa using q)
theorem PgOk.new {win : Int} (h : 100000000 ≤ win ∧ win ≤ 900000000) : PgOk (pgNew win) :=
  ⟨h, ⟨Int.le_refl _, by show (0 : Int) ≤ _; decide⟩, by simp [pgNew], ⟨by simp [pgNew, lastE], by simp [pgNew, lastE]⟩, fun i hi => by simp [pgNew] at hi, fun q e => by cases e⟩
theorem PgOk.edged {g : Pg} (h : PgOk g) (c : Int) (hc : g.latest ≤ c) (hm : c ≤ 9223372036854775807) : PgOk (g.edged c) := by
  have h0 := h.kl
  have h1 := h.last
  refine ⟨h.kw, ⟨by show 0 ≤ c; omega, hm⟩, pushE_length _ _ h.len, ?_, fun i hi => ?_, fun q e => by cases e⟩
  · show 0 ≤ lastE (pushE g.L c) ∧ lastE (pushE g.L c) ≤ c
    rw [lastE_push]; omega
  · show zi (pushE g.L c) i ≤ lastE (pushE g.L c)
    rw [lastE_push]
    rcases zi_push g.L c i hi with e | ⟨j, hj, e⟩
    · omega
    · have := h.below j hj
      omega
theorem PgOk.edge {g : Pg} (h : PgOk g) (c : Int) (hm : c ≤ 9223372036854775807) : PgOk (g.edge c) := by
  unfold Pg.edge
  split
  · exact h
  · exact h.edged c (by omega) hm
theorem PgOk.msg {g : Pg} (h : PgOk g) (m : Int) (x : Ms) (hm : m ≤ 9223372036854775807) : PgOk (g.msg m x) := by
  have h0 := h.kl
  have h1 := h.last
  unfold Pg.msg
  split
  · exact h
  · split
    · exact ⟨h.kw, ⟨by show 0 ≤ m; omega, hm⟩, h.len, ⟨h1.1, by show lastE g.L ≤ m; omega⟩, h.below, fun q e => by cases e; exact ⟨by show 0 ≤ m; omega, Int.le_refl _⟩⟩
    · exact ⟨h.kw, ⟨by show 0 ≤ m; omega, hm⟩, h.len, ⟨h1.1, by show lastE g.L ≤ m; omega⟩, h.below, fun q e => by have := h.kq q e; exact ⟨this.1, by show q.1 ≤ m; omega⟩⟩
/-- None is counted, where all are ahead. -/
theorem cntE_none (L : List Int) (a b : Int) : ∀ i, (∀ j, j < i → zi L j < a) → cntE L a b i = 0
  | 0, _ => rfl
  | i + 1, h => by
    unfold cntE
    rw [cntE_none L a b i (fun j hj => h j (by omega)), if_neg (fun q => by have := h i (by omega); omega)]
theorem PgOk.far_edge {g : Pg} (h : PgOk g) (m : Int) (hf : m - lastE g.L > g.win) : g.free m = false := by
  unfold Pg.free
  rw [cntE_none g.L _ _ _ (fun j hj => by have := h.below j hj; omega)]
  simp
theorem PgOk.no_edge {g : Pg} (hf : g.L = []) (m : Int) : g.free m = false := by
  unfold Pg.free
  rw [hf]
  simp [cntE]

/- All that came, in a list. -/
/-- What came: at which counter; an edge, or which message; whether it is in a pair; whether it waits no more. -/
structure Tg where
  at_ : Int
  edge : Bool
  msg : Ms
  isin : Bool
  gone : Bool
def noTg : Tg := ⟨0, false, noMs, false, false⟩
def tg (T : List Tg) (i : Nat) : Tg := T.getD i noTg
theorem tg_left {T : List Tg} {x : Tg} {i : Nat} (h : i < T.length) : tg (T ++ [x]) i = tg T i := by
  unfold tg
  rw [List.getD_eq_getElem?_getD, List.getD_eq_getElem?_getD, List.getElem?_append_left h]
theorem tg_new (T : List Tg) (x : Tg) : tg (T ++ [x]) T.length = x := by
  unfold tg
  rw [List.getD_eq_getElem?_getD, List.getElem?_append_right (Nat.le_refl _)]
  simp
theorem tg_set {T : List Tg} {x : Tg} {i j : Nat} (h : i < T.length) : tg (T.set i x) j = if j = i then x else tg T j := by
  unfold tg
  rw [List.getD_eq_getElem?_getD, List.getD_eq_getElem?_getD, List.getElem?_set]
  by_cases e : j = i
  · subst e; simp [h]
  · rw [if_neg (fun q => e q.symm), if_neg e]
theorem tg_mem {T : List Tg} {i : Nat} (h : i < T.length) : tg T i = T[i] := by simp [tg, h]
/-- The last edge of the first i. -/
def lastI (T : List Tg) : Nat → Option Nat
  | 0 => none
  | i + 1 => if (tg T i).edge then some i else lastI T i
/-- The message of the first i that waits. -/
def waitI (T : List Tg) : Nat → Option Nat
  | 0 => none
  | i + 1 => if !(tg T i).edge && (tg T i).msg.next then (if (tg T i).gone then none else some i) else waitI T i
/-- The edges of the first i that are kept. -/
def keptI (T : List Tg) : Nat → List Int
  | 0 => []
  | i + 1 => if (tg T i).edge then addE (keptI T i) (tg T i).at_ else keptI T i
theorem lastI_lt {T : List Tg} {e : Nat} : ∀ {n : Nat}, lastI T n = some e → e < n ∧ (tg T e).edge = true
  | 0, h => by cases h
  | n + 1, h => by
    unfold lastI at h
    split at h
    · cases h; rename_i q; exact ⟨by omega, q⟩
    · have := lastI_lt h; exact ⟨by omega, this.2⟩
theorem waitI_lt {T : List Tg} {e : Nat} : ∀ {n : Nat}, waitI T n = some e → e < n ∧ (tg T e).edge = false ∧ (tg T e).msg.next = true ∧ (tg T e).gone = false
  | 0, h => by cases h
  | n + 1, h => by
    unfold waitI at h
    split at h
    · rename_i q
      simp only [Bool.and_eq_true, Bool.not_eq_true'] at q
      split at h
      · cases h
      · rename_i r; cases h; exact ⟨by omega, q.1, q.2, by simpa using r⟩
    · have := waitI_lt h; exact ⟨by omega, this.2⟩
theorem lastI_congr {T U : List Tg} : ∀ {n : Nat}, (∀ i, i < n → (tg T i).edge = (tg U i).edge) → lastI T n = lastI U n
  | 0, _ => rfl
  | n + 1, h => by
    unfold lastI
    rw [h n (by omega), lastI_congr (fun i hi => h i (by omega))]
theorem keptI_congr {T U : List Tg} : ∀ {n : Nat}, (∀ i, i < n → (tg T i).edge = (tg U i).edge ∧ (tg T i).at_ = (tg U i).at_) → keptI T n = keptI U n
  | 0, _ => rfl
  | n + 1, h => by
    unfold keptI
    rw [(h n (by omega)).1, (h n (by omega)).2, keptI_congr (fun i hi => h i (by omega))]
theorem waitI_congr {T U : List Tg} : ∀ {n : Nat}, (∀ i, i < n → (tg T i).edge = (tg U i).edge ∧ (tg T i).msg = (tg U i).msg ∧ (tg T i).gone = (tg U i).gone) → waitI T n = waitI U n
  | 0, _ => rfl
  | n + 1, h => by
    unfold waitI
    rw [(h n (by omega)).1, (h n (by omega)).2.1, (h n (by omega)).2.2, waitI_congr (fun i hi => h i (by omega))]
/-- The one that waited is gone. -/
theorem waitI_gone {T U : List Tg} {e : Nat} : ∀ {n : Nat}, waitI T n = some e → (∀ i, i < n → (tg T i).edge = (tg U i).edge ∧ (tg T i).msg = (tg U i).msg ∧ (i ≠ e → (tg T i).gone = (tg U i).gone)) → (tg U e).gone = true → waitI U n = none
  | 0, h, _, _ => rfl
  | n + 1, h, hc, hg => by
    have h0 := hc n (by omega)
    unfold waitI at h ⊢
    rw [← h0.1, ← h0.2.1]
    split at h
    · rename_i q
      rw [if_pos q]
      split at h
      · cases h
      · cases h; rw [if_pos hg]
    · rename_i q
      rw [if_neg q]
      exact waitI_gone h (fun i hi => hc i (by omega)) hg
theorem keptI_len (T : List Tg) : ∀ n, (keptI T n).length ≤ 8
  | 0 => by simp [keptI]
  | n + 1 => by
    have := keptI_len T n
    unfold keptI
    split
    · unfold addE
      split
      · exact this
      · exact pushE_length _ _ this
    · exact this
/-- May something come at a counter? -/
def mayT (T : List Tg) (c : Int) : Bool := decide (0 ≤ c) && (decide (T.length = 0) || decide ((tg T (T.length - 1)).at_ ≤ c))
/-- An edge comes. -/
def edgeT (T : List Tg) (win c : Int) : List Tg :=
  if mayT T c = false then T else
  match waitI T T.length with
  | none => T ++ [(⟨c, true, noMs, false, false⟩ : Tg)]
  | some i => if c - (tg T i).at_ > win then (T ++ [(⟨c, true, noMs, false, false⟩ : Tg)]).set i { tg T i with gone := true }
    else ((T ++ [(⟨c, true, noMs, false, false⟩ : Tg)]).set i { tg T i with gone := true }).set T.length ⟨c, true, noMs, true, false⟩
def edgeTP (T : List Tg) (win c : Int) : Option Pd :=
  if mayT T c = false then none else
  match waitI T T.length with
  | none => none
  | some i => if c - (tg T i).at_ > win then none else some ⟨c, (tg T i).msg⟩
/-- Whether a message is paired with the last edge. -/
def meetsT (T : List Tg) (win m : Int) (x : Ms) : Option Nat :=
  if x.next then none else
  match lastI T T.length with
  | none => none
  | some e => if (tg T e).isin = true ∨ m - (tg T e).at_ > win ∨ cntE (keptI T T.length) (m - win) m (keptI T T.length).length ≠ 1 then none else some e
def msgT (T : List Tg) (win m : Int) (x : Ms) : List Tg :=
  if mayT T m = false then T else
  match meetsT T win m x with
  | none => T ++ [(⟨m, false, x, false, false⟩ : Tg)]
  | some e => (T ++ [(⟨m, false, x, false, false⟩ : Tg)]).set e { tg T e with isin := true }
def msgTP (T : List Tg) (win m : Int) (x : Ms) : Option Pd :=
  if mayT T m = false then none else (meetsT T win m x).map fun e => ⟨(tg T e).at_, x⟩
/-- What the program holds is what the list of all that came tells. -/
structure SimT (T : List Tg) (g : Pg) : Prop where
  now : if T.length = 0 then g.latest = 0 else (tg T (T.length - 1)).at_ = g.latest
  at_ : ∀ i, i < T.length → 0 ≤ (tg T i).at_ ∧ (tg T i).at_ ≤ g.latest
  kept : keptI T T.length = g.L
  wait : match waitI T T.length with
    | none => g.waits = none
    | some i => g.waits = some ((tg T i).at_, (tg T i).msg)
  last : match lastI T T.length with
    | none => g.L = [] ∧ g.taken = false
    | some e => lastE g.L = (tg T e).at_ ∧ g.taken = (tg T e).isin
theorem SimT.new (win : Int) : SimT [] (pgNew win) := ⟨rfl, fun i hi => by simp at hi, rfl, rfl, ⟨rfl, rfl⟩⟩
theorem SimT.may {T : List Tg} {g : Pg} (h : SimT T g) (hk : PgOk g) (c : Int) : mayT T c = !decide (c < g.latest) := by
  have h0 := hk.kl
  have h1 := h.now
  unfold mayT
  by_cases e : T.length = 0
  · rw [if_pos e] at h1
    rw [h1, decide_eq_true e]
    by_cases q : 0 ≤ c
    · rw [decide_eq_true q, decide_eq_false (by omega : ¬ c < 0)]; rfl
    · rw [decide_eq_false q, decide_eq_true (by omega : c < 0)]; rfl
  · rw [if_neg e] at h1
    rw [h1, decide_eq_false e]
    by_cases q : g.latest ≤ c
    · rw [decide_eq_true q, decide_eq_false (by omega : ¬ c < g.latest), decide_eq_true (by omega : 0 ≤ c)]; rfl
    · rw [decide_eq_false q, decide_eq_true (by omega : c < g.latest)]; simp
theorem not_mayT {T : List Tg} {g : Pg} (h : SimT T g) (hk : PgOk g) (c : Int) : (mayT T c = false) = (c < g.latest) := by
  rw [h.may hk c]; simp
theorem SimT.edgeP {T : List Tg} {g : Pg} (h : SimT T g) (hk : PgOk g) (c : Int) : edgeTP T g.win c = g.edgeP c := by
  have hw := h.wait
  unfold edgeTP Pg.edgeP Pg.meets
  simp only [not_mayT h hk c]
  by_cases q : c < g.latest
  · rw [if_pos q, if_pos q]
  · rw [if_neg q, if_neg q]
    cases e : waitI T T.length with
    | none => rw [e] at hw; simp only at hw ⊢; rw [hw]; rfl
    | some i =>
      rw [e] at hw
      simp only at hw ⊢
      rw [hw]
      by_cases q2 : c - (tg T i).at_ > g.win
      · rw [if_pos q2, if_neg (by simp; omega)]
      · rw [if_neg q2, if_pos (by simp; omega)]; rfl
theorem SimT.edge {T : List Tg} {g : Pg} (h : SimT T g) (hk : PgOk g) (c : Int) : SimT (edgeT T g.win c) (g.edge c) := by
  have hw := h.wait
  have h0 := hk.kl
  have hl := hk.last
  have h1 := h.now
  unfold edgeT Pg.edge
  simp only [not_mayT h hk c]
  by_cases q : c < g.latest
  · rw [if_pos q, if_pos q]; exact h
  · rw [if_neg q, if_neg q]
    -- whatever is set, the list is as T, with the edge behind it
    have key : ∀ U : List Tg, U.length = T.length + 1 → (∀ i, i < T.length → (tg U i).edge = (tg T i).edge ∧ (tg U i).at_ = (tg T i).at_ ∧ (tg U i).msg = (tg T i).msg) → (tg U T.length).edge = true → (tg U T.length).at_ = c → (tg U T.length).isin = g.meets c → waitI U T.length = none → SimT U (g.edged c) := by
      intro U hl' ha he hc hi hq
      have e1 : U.length - 1 = T.length := by omega
      refine ⟨?_, fun i hi' => ?_, ?_, ?_, ?_⟩
      · rw [if_neg (by omega), e1]; exact hc
      · show 0 ≤ (tg U i).at_ ∧ (tg U i).at_ ≤ c
        by_cases e : i = T.length
        · rw [e, hc]; omega
        · have := h.at_ i (by omega)
          rw [(ha i (by omega)).2.1]; omega
      · rw [hl']
        unfold keptI
        rw [if_pos he, hc, keptI_congr (U := T) (fun i hi' => ⟨(ha i hi').1, (ha i hi').2.1⟩), h.kept]
        unfold addE
        rw [if_neg (by omega)]; rfl
      · rw [hl']
        unfold waitI
        rw [he, hq]; rfl
      · rw [hl']
        unfold lastI
        rw [if_pos he]
        simp only
        exact ⟨by rw [hc]; exact lastE_push _ _, hi.symm⟩
    cases e : waitI T T.length with
    | none =>
      rw [e] at hw
      simp only at hw ⊢
      refine key (T ++ [⟨c, true, noMs, false, false⟩]) (by simp) (fun i hi => by rw [tg_left hi]; exact ⟨rfl, rfl, rfl⟩) (by rw [tg_new]) (by rw [tg_new]) (by rw [tg_new]; unfold Pg.meets; rw [hw]) ?_
      refine (waitI_congr (U := T) (fun i hi => ?_)).trans e
      rw [tg_left hi]; exact ⟨rfl, rfl, rfl⟩
    | some j =>
      have hj := waitI_lt e
      rw [e] at hw
      simp only at hw ⊢
      have lj : j < (T ++ [(⟨c, true, noMs, false, false⟩ : Tg)]).length := by simp; omega
      have hset : ∀ i, tg ((T ++ [(⟨c, true, noMs, false, false⟩ : Tg)]).set j { tg T j with gone := true }) i = if i = j then { tg T j with gone := true } else tg (T ++ [(⟨c, true, noMs, false, false⟩ : Tg)]) i := fun i => tg_set lj
      have hsame : ∀ i, i < T.length → (tg ((T ++ [(⟨c, true, noMs, false, false⟩ : Tg)]).set j { tg T j with gone := true }) i).edge = (tg T i).edge ∧ (tg ((T ++ [(⟨c, true, noMs, false, false⟩ : Tg)]).set j { tg T j with gone := true }) i).at_ = (tg T i).at_ ∧ (tg ((T ++ [(⟨c, true, noMs, false, false⟩ : Tg)]).set j { tg T j with gone := true }) i).msg = (tg T i).msg := by
        intro i hi
        rw [hset]
        by_cases q2 : i = j
        · subst q2; rw [if_pos rfl]; exact ⟨rfl, rfl, rfl⟩
        · rw [if_neg q2, tg_left hi]; exact ⟨rfl, rfl, rfl⟩
      have hgone : waitI ((T ++ [(⟨c, true, noMs, false, false⟩ : Tg)]).set j { tg T j with gone := true }) T.length = none := by
        refine waitI_gone e (fun i hi => ⟨((hsame i hi).1).symm, ((hsame i hi).2.2).symm, fun hne => ?_⟩) ?_
        · rw [hset, if_neg hne, tg_left hi]
        · rw [hset, if_pos rfl]
      have hnew : tg ((T ++ [(⟨c, true, noMs, false, false⟩ : Tg)]).set j { tg T j with gone := true }) T.length = ⟨c, true, noMs, false, false⟩ := by
        rw [hset, if_neg (by omega), tg_new]
      by_cases q2 : c - (tg T j).at_ > g.win
      · rw [if_pos q2]
        refine key _ (by simp) hsame (by rw [hnew]) (by rw [hnew]) ?_ hgone
        rw [hnew]
        unfold Pg.meets
        rw [hw]
        simp; omega
      · rw [if_neg q2]
        have hset2 : ∀ i, tg (((T ++ [(⟨c, true, noMs, false, false⟩ : Tg)]).set j { tg T j with gone := true }).set T.length ⟨c, true, noMs, true, false⟩) i = if i = T.length then ⟨c, true, noMs, true, false⟩ else tg ((T ++ [(⟨c, true, noMs, false, false⟩ : Tg)]).set j { tg T j with gone := true }) i := fun i => tg_set (by simp)
        refine key _ (by simp) (fun i hi => by rw [hset2, if_neg (by omega)]; exact hsame i hi) (by rw [hset2, if_pos rfl]) (by rw [hset2, if_pos rfl]) ?_ ?_
        · rw [hset2, if_pos rfl]
          unfold Pg.meets
          rw [hw]
          simp; omega
        · refine (waitI_congr (U := (T ++ [(⟨c, true, noMs, false, false⟩ : Tg)]).set j { tg T j with gone := true }) (fun i hi => ?_)).trans hgone
          rw [hset2, if_neg (by omega)]; exact ⟨rfl, rfl, rfl⟩
theorem SimT.meets {T : List Tg} {g : Pg} (h : SimT T g) (hk : PgOk g) (m : Int) (x : Ms) (hx : x.next = false) : ((meetsT T g.win m x).isSome = g.free m) ∧ ∀ e, meetsT T g.win m x = some e → lastI T T.length = some e := by
  have hl := h.last
  unfold meetsT
  rw [hx]
  simp only [Bool.false_eq_true, if_false]
  cases e : lastI T T.length with
  | none =>
    rw [e] at hl
    simp only at hl ⊢
    exact ⟨(PgOk.no_edge hl.1 m).symm, fun e q => by cases q⟩
  | some j =>
    rw [e] at hl
    simp only at hl ⊢
    rw [h.kept, ← hl.1, ← hl.2]
    by_cases q : g.taken = true ∨ m - lastE g.L > g.win ∨ cntE g.L (m - g.win) m g.L.length ≠ 1
    · rw [if_pos q]
      refine ⟨?_, fun e q => by cases q⟩
      rcases q with q | q | q
      · unfold Pg.free; rw [q]; rfl
      · rw [hk.far_edge m q]; rfl
      · unfold Pg.free; rw [decide_eq_false q]; simp
    · rw [if_neg q]
      refine ⟨?_, fun e q => by cases q; rfl⟩
      have q1 : g.taken = false := by cases hq : g.taken with
        | false => rfl
        | true => exact absurd (.inl hq) q
      have q2 : cntE g.L (m - g.win) m g.L.length = 1 := Decidable.byContradiction fun hq => q (.inr (.inr hq))
      unfold Pg.free
      rw [q1, q2]; rfl
theorem SimT.msgP {T : List Tg} {g : Pg} (h : SimT T g) (hk : PgOk g) (m : Int) (x : Ms) : msgTP T g.win m x = g.msgP m x := by
  have hl := h.last
  unfold msgTP Pg.msgP
  simp only [not_mayT h hk m]
  by_cases q : m < g.latest
  · rw [if_pos q, if_pos q]
  · rw [if_neg q, if_neg q]
    by_cases hx : x.next = true
    · rw [if_pos hx]
      unfold meetsT
      rw [if_pos hx]; rfl
    · rw [if_neg hx]
      obtain ⟨h1, h2⟩ := h.meets hk m x (by simpa using hx)
      cases e : meetsT T g.win m x with
      | none => rw [e] at h1; rw [← h1]; rfl
      | some j =>
        rw [e] at h1
        rw [h2 j e] at hl
        rw [← h1]
        simp only at hl
        show some (⟨(tg T j).at_, x⟩ : Pd) = _
        rw [← hl.1]; rfl
theorem SimT.msg {T : List Tg} {g : Pg} (h : SimT T g) (hk : PgOk g) (m : Int) (x : Ms) : SimT (msgT T g.win m x) (g.msg m x) := by
  have hw := h.wait
  have hl := h.last
  have h0 := hk.kl
  unfold msgT Pg.msg
  simp only [not_mayT h hk m]
  by_cases q : m < g.latest
  · rw [if_pos q, if_pos q]; exact h
  · rw [if_neg q, if_neg q]
    have key : ∀ (U : List Tg) (t : Bool), U.length = T.length + 1 → (∀ i, i < T.length → (tg U i).edge = (tg T i).edge ∧ (tg U i).at_ = (tg T i).at_ ∧ (tg U i).msg = (tg T i).msg ∧ (tg U i).gone = (tg T i).gone) → tg U T.length = ⟨m, false, x, false, false⟩ →
        (match lastI T T.length with
          | none => g.L = [] ∧ t = false
          | some e => lastE g.L = (tg U e).at_ ∧ t = (tg U e).isin) → SimT U (if x.next = true then ⟨g.L, g.win, m, t, some (m, x)⟩ else ⟨g.L, g.win, m, t, g.waits⟩) := by
      intro U t hl' ha hn ht
      have e1 : U.length - 1 = T.length := by omega
      have hlast : lastI U U.length = lastI T T.length := by
        rw [hl']
        have : lastI U (T.length + 1) = lastI U T.length := by rw [lastI, hn]; rfl
        rw [this]
        exact lastI_congr (fun i hi => (ha i hi).1)
      have hkept : keptI U U.length = g.L := by
        rw [hl']
        unfold keptI
        rw [hn]
        simp only [Bool.false_eq_true, if_false]
        rw [keptI_congr (U := T) (fun i hi' => ⟨(ha i hi').1, (ha i hi').2.1⟩), h.kept]
      have hat : ∀ i, i < U.length → 0 ≤ (tg U i).at_ ∧ (tg U i).at_ ≤ m := by
        intro i hi'
        by_cases e : i = T.length
        · rw [e, hn]; show 0 ≤ m ∧ m ≤ m; omega
        · have := h.at_ i (by omega)
          rw [(ha i (by omega)).2.1]; omega
      have hnow : if U.length = 0 then m = 0 else (tg U (U.length - 1)).at_ = m := by
        rw [if_neg (by omega), e1, hn]
      by_cases hx : x.next = true
      · rw [if_pos hx]
        refine ⟨hnow, hat, hkept, ?_, by rw [hlast]; exact ht⟩
        rw [hl']
        unfold waitI
        rw [hn]
        simp only [hx, Bool.not_false, Bool.and_self, if_true, Bool.false_eq_true, if_false]
        rw [hn]
      · rw [if_neg hx]
        refine ⟨hnow, hat, hkept, ?_, by rw [hlast]; exact ht⟩
        rw [hl']
        unfold waitI
        rw [hn]
        have hx' : x.next = false := by simpa using hx
        simp only [hx', Bool.not_false, Bool.and_false, Bool.false_eq_true, if_false]
        rw [waitI_congr (U := T) (fun i hi => ⟨(ha i hi).1, (ha i hi).2.2.1, (ha i hi).2.2.2⟩)]
        cases e : waitI T T.length with
        | none => rw [e] at hw; exact hw
        | some j =>
          rw [e] at hw
          have := waitI_lt e
          simp only at hw ⊢
          rw [hw, (ha j this.1).2.1, (ha j this.1).2.2.1]
    have hplain : SimT (T ++ [⟨m, false, x, false, false⟩]) (if x.next = true then ⟨g.L, g.win, m, g.taken, some (m, x)⟩ else ⟨g.L, g.win, m, g.taken, g.waits⟩) := by
      refine key _ g.taken (by simp) (fun i hi => by rw [tg_left hi]; exact ⟨rfl, rfl, rfl, rfl⟩) (tg_new _ _) ?_
      cases e : lastI T T.length with
      | none => rw [e] at hl; exact hl
      | some j =>
        rw [e] at hl
        simp only at hl ⊢
        rw [tg_left (lastI_lt e).1]; exact hl
    by_cases hx : x.next = true
    · have hm : meetsT T g.win m x = none := by unfold meetsT; rw [if_pos hx]
      rw [hm, if_pos hx]
      rw [if_pos hx] at hplain
      exact hplain
    · obtain ⟨h1, h2⟩ := h.meets hk m x (by simpa using hx)
      rw [if_neg hx] at hplain ⊢
      cases e : meetsT T g.win m x with
      | none =>
        rw [e] at h1
        rw [← h1]
        simpa using hplain
      | some j =>
        have hj := lastI_lt (h2 j e)
        rw [e] at h1
        rw [← h1]
        have lj : j < (T ++ [(⟨m, false, x, false, false⟩ : Tg)]).length := by simp; omega
        have hset : ∀ i, tg ((T ++ [(⟨m, false, x, false, false⟩ : Tg)]).set j { tg T j with isin := true }) i = if i = j then { tg T j with isin := true } else tg (T ++ [(⟨m, false, x, false, false⟩ : Tg)]) i := fun i => tg_set lj
        have := key ((T ++ [(⟨m, false, x, false, false⟩ : Tg)]).set j { tg T j with isin := true }) true (by simp) (fun i hi => by
          rw [hset]
          by_cases q2 : i = j
          · subst q2; rw [if_pos rfl]; exact ⟨rfl, rfl, rfl, rfl⟩
          · rw [if_neg q2, tg_left hi]; exact ⟨rfl, rfl, rfl, rfl⟩) (by rw [hset, if_neg (by omega), tg_new]) (by
          rw [h2 j e] at hl ⊢
          simp only at hl ⊢
          rw [hset, if_pos rfl]
          exact ⟨hl.1, rfl⟩)
        rw [if_neg hx] at this
        simpa using this
theorem edgeT_len (T : List Tg) (win c : Int) : (edgeT T win c).length ≤ T.length + 1 := by
  unfold edgeT
  split
  · omega
  · split
    · simp
    · split <;> simp
theorem msgT_len (T : List Tg) (win m : Int) (x : Ms) : (msgT T win m x).length ≤ T.length + 1 := by
  unfold msgT
  split
  · omega
  · split <;> simp
end Go.Proofs.Ytkijonnbngnliaa
