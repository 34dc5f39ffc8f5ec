/-
  Texts parted at commas, as plain lists of bytes: the parts, byte by byte; joined again; no comma in a part.
  Rows of texts: a call's own, appended to one by one, and written over.
  strings.Split at one byte: no cell is asked for.
  Texts parted at commas: the document's Split, byte by byte, and the program's, by the library's.
-/
import Derived.Test.YtlcmjedbdopglaaGreatDoorRefA
import Derived.Test.YtlcmjedbdopglaaGreatDoorRowK
import Derived.Test.YtlcmjedbdopglaaGreatDoorFldA
import Derived.Test.YtlcmjedbdopglaaGreatDoorShelf
import Derived.Lib.SplitLaws
import Derived.Lib.Join
import Derived.Shelf.Strings.Split
import Derived.LoopTactic
namespace Go.Proofs.YtlcmjedbdopglaaGreatDoor
open Go.RowKit
set_option linter.unusedVariables false

/- Texts parted at commas, as plain lists of bytes: the parts, byte by byte; joined again; no comma in a part. -/
/-- A text ahead of the first part. -/
def glue (x : List UInt8) : List (List UInt8) → List (List UInt8)
  | [] => [x]
  | p :: ps => (x ++ p) :: ps
/-- The parts between commas. -/
def partsL : List UInt8 → List (List UInt8)
  | [] => [[]]
  | c :: l => if c = 44 then [] :: partsL l else glue [c] (partsL l)
theorem partsL_ne : ∀ l, ∃ p ps, partsL l = p :: ps
  | [] => ⟨[], [], rfl⟩
  | c :: l => by
    obtain ⟨p, ps, h⟩ := partsL_ne l
    unfold partsL
    split
    · exact ⟨_, _, rfl⟩
    · rw [h]; exact ⟨_, _, rfl⟩
theorem glue_glue (x y : List UInt8) (L : List (List UInt8)) (h : ∃ p ps, L = p :: ps) : glue x (glue y L) = glue (x ++ y) L := by
  obtain ⟨p, ps, rfl⟩ := h
  simp [glue]
theorem glue_nil (L : List (List UInt8)) (h : ∃ p ps, L = p :: ps) : glue [] L = L := by
  obtain ⟨p, ps, rfl⟩ := h
  rfl
theorem splitK_parts : ∀ l : List UInt8, Lib.splitK [44] 0 (Lib.count l [44]) l = partsL l
  | [] => rfl
  | c :: l => by
    have ih := splitK_parts l
    by_cases hc : c = 44
    · subst hc
      have hix : Lib.index (44 :: l) [44] = 0 := by rw [Lib.index]; simp [List.isPrefixOf]
      rw [Lib.count_cons_eq, Nat.add_comm 1, Lib.splitK, hix, partsL, if_pos rfl, if_neg (by decide), ← ih]
      rfl
    · have hp : ([44] : List UInt8).isPrefixOf (c :: l) = false := by simp [List.isPrefixOf, Ne.symm hc]
      have hix : Lib.index (c :: l) [44] = if Lib.index l [44] == -1 then -1 else Lib.index l [44] + 1 := by rw [Lib.index, hp]; simp
      rw [Lib.count_cons_ne c 44 l hc, partsL, if_neg hc, ← ih]
      cases hk : Lib.count l [44] with
      | zero => rfl
      | succ k =>
        rw [Lib.splitK, Lib.splitK, hix]
        by_cases hm : Lib.index l [44] = -1
        · rw [if_pos (beq_iff_eq.2 hm), if_pos (beq_iff_eq.2 rfl), if_pos (beq_iff_eq.2 hm)]; rfl
        · have hge := Lib.index_ge l [44]
          obtain ⟨j, hj⟩ : ∃ j : Nat, Lib.index l [44] = j := ⟨(Lib.index l [44]).toNat, by omega⟩
          rw [if_neg (fun e => hm (beq_iff_eq.1 e)), if_neg (fun e => by have := beq_iff_eq.1 e; omega), if_neg (fun e => hm (beq_iff_eq.1 e)), hj]
          rw [show (((j : Nat) : Int) + 1).toNat = j + 1 by omega, show ((j : Nat) : Int).toNat = j by omega]
          simp [glue, List.take_succ_cons]
theorem join_glue (c : UInt8) (L : List (List UInt8)) (h : ∃ p ps, L = p :: ps) : Lib.join (glue [c] L) [44] = c :: Lib.join L [44] := by
  obtain ⟨p, ps, rfl⟩ := h
  rw [glue, Lib.join_cons, Lib.join_cons]; rfl
theorem join_parts : ∀ l : List UInt8, Lib.join (partsL l) [44] = l
  | [] => rfl
  | c :: l => by
    unfold partsL
    split
    · rename_i h
      subst h
      obtain ⟨p, ps, e⟩ := partsL_ne l
      have ih := join_parts l
      rw [e, Lib.join_cons] at ih
      rw [Lib.join_cons, e, ← ih]
      simp [Lib.joinTail]
    · rw [join_glue c _ (partsL_ne l), join_parts l]
theorem parts_no : ∀ l : List UInt8, ∀ p ∈ partsL l, (44 : UInt8) ∉ p
  | [] => by simp [partsL]
  | c :: l => by
    have ih := parts_no l
    obtain ⟨p, ps, e⟩ := partsL_ne l
    intro q hq
    unfold partsL at hq
    split at hq
    · rcases List.mem_cons.1 hq with rfl | h
      · simp
      · exact ih q h
    · rename_i hc
      rw [e] at hq ih
      rcases List.mem_cons.1 hq with rfl | h
      · intro hm
        rcases List.mem_append.1 hm with h | h
        · exact hc (List.mem_singleton.1 h).symm
        · exact ih p (List.mem_cons_self ..) h
      · exact ih q (List.mem_cons_of_mem _ h)
theorem parts_length : ∀ l : List UInt8, (partsL l).length ≤ l.length + 1
  | [] => Nat.le_refl _
  | c :: l => by
    have ih := parts_length l
    obtain ⟨p, ps, e⟩ := partsL_ne l
    unfold partsL
    split
    · rw [List.length_cons, List.length_cons]; omega
    · rw [e] at ih ⊢
      rw [glue, List.length_cons, List.length_cons]; rw [List.length_cons] at ih; omega
theorem parts_size : ∀ l : List UInt8, ∀ p ∈ partsL l, p.length ≤ l.length
  | [] => by simp [partsL]
  | c :: l => by
    have ih := parts_size l
    obtain ⟨p, ps, e⟩ := partsL_ne l
    intro q hq
    unfold partsL at hq
    rw [List.length_cons]
    split at hq
    · rcases List.mem_cons.1 hq with rfl | h
      · simp
      · have := ih q h; omega
    · rw [e] at hq ih
      rcases List.mem_cons.1 hq with rfl | h
      · have := ih p (List.mem_cons_self ..)
        rw [List.length_append, List.length_singleton]; omega
      · have := ih q (List.mem_cons_of_mem _ h); omega

/-- One byte more: a part more, or the last one is longer. -/
def cut1 (ps : List ByteArray) (c : UInt8) : List ByteArray := if c = 44 then ps ++ [⟨#[]⟩] else ps.set (ps.length - 1) (ps.getD (ps.length - 1) ⟨#[]⟩ ++ ⟨#[c]⟩)
/-- The parts of a text's first bytes. -/
def cutTo (s : ByteArray) (i : Nat) : List ByteArray := (s.data.toList.take i).foldl cut1 [⟨#[]⟩]
theorem cutTo_zero (s : ByteArray) : cutTo s 0 = [⟨#[]⟩] := rfl
theorem cutTo_succ (s : ByteArray) (i : Nat) (h : i < s.size) : cutTo s (i + 1) = cut1 (cutTo s i) s[i] := by
  unfold cutTo
  rw [List.take_add_one, List.foldl_append]
  have h2 : i < s.data.size := h
  rw [Array.getElem?_toList, Array.getElem?_eq_getElem h2]
  rfl
theorem cut1_last (ps : List ByteArray) (q : ByteArray) (c : UInt8) (hc : ¬ c = 44) : cut1 (ps ++ [q]) c = ps ++ [q ++ ⟨#[c]⟩] := by
  unfold cut1
  rw [if_neg hc, List.length_append, List.length_singleton, Nat.add_sub_cancel, List.getD_eq_getElem?_getD, List.getElem?_append_right (Nat.le_refl _), Nat.sub_self]
  rw [List.set_append_right _ _ (Nat.le_refl _), Nat.sub_self]
  rfl
def bytesOf (s : ByteArray) : List UInt8 := s.data.toList
theorem bytesOf_inj {s t : ByteArray} (h : bytesOf s = bytesOf t) : s = t := by
  obtain ⟨a⟩ := s
  obtain ⟨b⟩ := t
  have : a = b := Array.toList_inj.1 h
  rw [this]
theorem bytesOf_append (s t : ByteArray) : bytesOf (s ++ t) = bytesOf s ++ bytesOf t := by
  unfold bytesOf
  rw [ByteArray.data_append, Array.toList_append]
theorem fold_cut : ∀ (l : List UInt8) (ps : List ByteArray) (q : ByteArray), (l.foldl cut1 (ps ++ [q])).map bytesOf = ps.map bytesOf ++ glue (bytesOf q) (partsL l)
  | [], ps, q => by rw [List.foldl_nil, List.map_append, List.map_cons, List.map_nil, partsL, glue, List.append_nil]
  | c :: l, ps, q => by
    rw [List.foldl_cons]
    by_cases hc : c = 44
    · subst hc
      have e : cut1 (ps ++ [q]) 44 = (ps ++ [q]) ++ [⟨#[]⟩] := by unfold cut1; rw [if_pos rfl]
      rw [e, fold_cut l, List.map_append, List.append_assoc]
      congr 1
      rw [partsL, if_pos rfl, show bytesOf (⟨#[]⟩ : ByteArray) = [] from rfl, glue_nil _ (partsL_ne l), glue, List.append_nil]
      rfl
    · rw [cut1_last _ _ _ hc, fold_cut l, partsL, if_neg hc, glue_glue _ _ _ (partsL_ne l), bytesOf_append]
      rfl
/-- Byte by byte as all at once. -/
theorem cutTo_all (s : ByteArray) : cutTo s s.size = Lib.splitB ⟨#[44]⟩ 0 (Lib.countB s ⟨#[44]⟩) s := by
  have h1 : (cutTo s s.size).map bytesOf = partsL (bytesOf s) := by
    unfold cutTo
    rw [List.take_of_length_le (by rw [Array.length_toList]; exact Nat.le_refl _)]
    have := fold_cut (bytesOf s) [] ⟨#[]⟩
    rw [List.nil_append, List.map_nil, List.nil_append, show bytesOf (⟨#[]⟩ : ByteArray) = [] from rfl, glue_nil _ (partsL_ne _)] at this
    exact this
  have h2 : (Lib.splitB ⟨#[44]⟩ 0 (Lib.countB s ⟨#[44]⟩) s).map bytesOf = partsL (bytesOf s) := by
    have := Lib.splitB_data ⟨#[44]⟩ 0 (Lib.countB s ⟨#[44]⟩) s
    exact this.trans (splitK_parts _)
  exact (List.map_inj_right (fun a b hab => bytesOf_inj hab)).1 (h1.trans h2.symm)
theorem cutTo_length (s : ByteArray) : ∀ i, 1 ≤ (cutTo s i).length ∧ (cutTo s i).length ≤ i + 1 := by
  have h : ∀ (l : List UInt8) (ps : List ByteArray), 1 ≤ ps.length → 1 ≤ (l.foldl cut1 ps).length ∧ (l.foldl cut1 ps).length ≤ l.length + ps.length := by
    intro l
    induction l with
    | nil => intro ps h; simp [h]
    | cons c l ih =>
      intro ps h
      rw [List.foldl_cons]
      have e : 1 ≤ (cut1 ps c).length ∧ (cut1 ps c).length ≤ ps.length + 1 := by
        unfold cut1
        split
        · rw [List.length_append, List.length_singleton]; omega
        · rw [List.length_set]; omega
      have := ih (cut1 ps c) e.1
      rw [List.length_cons]
      omega
  intro i
  have := h (s.data.toList.take i) [⟨#[]⟩] (by simp)
  unfold cutTo
  rw [List.length_singleton, List.length_take] at this
  omega
theorem cutTo_size (s : ByteArray) : ∀ i, ∀ p ∈ cutTo s i, p.size ≤ i := by
  have h : ∀ (l : List UInt8) (ps : List ByteArray) (n : Nat), (∀ p ∈ ps, p.size ≤ n) → ∀ p ∈ l.foldl cut1 ps, p.size ≤ n + l.length := by
    intro l
    induction l with
    | nil => intro ps n h; simpa using h
    | cons c l ih =>
      intro ps n h p hp
      rw [List.foldl_cons] at hp
      have := ih (cut1 ps c) (n + 1) (fun q hq => ?_) p hp
      · rw [List.length_cons]; omega
      · unfold cut1 at hq
        split at hq
        · rcases List.mem_append.1 hq with h1 | h1
          · have := h q h1; omega
          · rw [List.mem_singleton.1 h1]; exact Nat.zero_le _
        · rcases List.mem_or_eq_of_mem_set hq with h1 | h1
          · have := h q h1; omega
          · rw [h1, ByteArray.size_append]
            have : (ps.getD (ps.length - 1) ⟨#[]⟩).size ≤ n := by
              rw [List.getD_eq_getElem?_getD]
              cases hx : ps[ps.length - 1]? with
              | none => exact Nat.zero_le _
              | some y => exact h y (List.mem_of_getElem? hx)
            have e : (⟨#[c]⟩ : ByteArray).size = 1 := rfl
            omega
  intro i p hp
  have := h (s.data.toList.take i) [⟨#[]⟩] 0 (fun q hq => by rw [List.mem_singleton.1 hq]; exact Nat.zero_le _) p hp
  rw [List.length_take] at this
  omega
/-- The parts of a whole text. -/
def partsB (s : ByteArray) : List ByteArray := cutTo s s.size
theorem partsB_bytes (s : ByteArray) : (partsB s).map bytesOf = partsL (bytesOf s) := by
  unfold partsB
  rw [cutTo_all]
  exact (Lib.splitB_data ⟨#[44]⟩ 0 (Lib.countB s ⟨#[44]⟩) s).trans (splitK_parts _)
theorem partsB_length (s : ByteArray) : (partsB s).length = Lib.countB s ⟨#[44]⟩ + 1 := by
  unfold partsB
  rw [cutTo_all]
  exact Lib.splitB_all ⟨#[44]⟩ (by decide) 0 _ s rfl
theorem partsB_le (s : ByteArray) : (partsB s).length ≤ s.size + 1 := (cutTo_length s s.size).2
theorem partsB_pos (s : ByteArray) : 0 < (partsB s).length := (cutTo_length s s.size).1
theorem partsB_size (s : ByteArray) (p : ByteArray) (h : p ∈ partsB s) : p.size ≤ s.size := by
  have h2 : bytesOf p ∈ partsL (bytesOf s) := by rw [← partsB_bytes]; exact List.mem_map_of_mem h
  have := parts_size _ _ h2
  unfold bytesOf at this
  rw [Array.length_toList, Array.length_toList] at this
  exact this
theorem partsB_no (s : ByteArray) (p : ByteArray) (h : p ∈ partsB s) : (44 : UInt8) ∉ p.data.toList := by
  have h2 : bytesOf p ∈ partsL (bytesOf s) := by rw [← partsB_bytes]; exact List.mem_map_of_mem h
  exact parts_no _ _ h2
theorem partsB_join (s : ByteArray) : Lib.join ((partsB s).map (·.data.toList)) [44] = s.data.toList := by
  have := join_parts (bytesOf s)
  rw [← partsB_bytes] at this
  exact this
/- Rows of texts: a call's own, appended to one by one, and written over. -/
/-- A slice of texts that begins at a block's head. -/
def RowS (w : World) (v : Value) (ps : List ByteArray) : Prop := ∃ b c, v = .slice (some ⟨b, 0, none⟩) ps.length c ∧ ps.length ≤ c ∧ b < w.heap.size ∧ ∀ (j : Nat) x, ps[j]? = some x → w.cell? ⟨b, j, none⟩ = some (.string x)
theorem RowS.grew {w w' : World} {v : Value} {ps : List ByteArray} (h : RowS w v ps) (g : Grew w w') : RowS w' v ps := by
  obtain ⟨b, c, e, hc, hb, hcell⟩ := h
  exact ⟨b, c, e, hc, Nat.lt_of_lt_of_le hb g.size, fun j x hj => (g.cell hb).trans (hcell j x hj)⟩
/-- A row of texts of the call's own, from block B on. -/
def OwnS (B : Nat) (E : TypeId) (w : World) (v : Value) (ps : List ByteArray) : Prop := w.ownsRow B E 1 v ps.length (ps.map Value.string)
theorem OwnS.alloc {B : Nat} {E : TypeId} {w : World} {v : Value} {ps : List ByteArray} (h : OwnS B E w v ps) (o : Obj) : OwnS B E (w.alloc o) v ps := World.ownsRow.alloc h o
theorem OwnS.drew {B : Nat} {E : TypeId} {w : World} {v : Value} {ps : List ByteArray} (h : OwnS B E w v ps) : OwnS B E w.drew v ps := World.ownsRow.drew h
theorem OwnS.drewN {B : Nat} {E : TypeId} {w : World} {v : Value} {ps : List ByteArray} (h : OwnS B E w v ps) (n : Nat) : OwnS B E (w.drewN n) v ps := h
theorem OwnS.form {w : World} {B : Nat} {E : TypeId} {v : Value} {ps : List ByteArray} (h : OwnS B E w v ps) (hn : 0 < ps.length) : ∃ g c, v = .slice (some ⟨g, 0, none⟩) ps.length c ∧ B ≤ g ∧ g < w.heap.size := by
  rcases h.2 with ⟨_, h0⟩ | ⟨g, cap, _, hv, hg, hh, _⟩
  · omega
  · exact ⟨g, cap, hv, hg, (Array.getElem?_eq_some_iff.1 hh).1⟩
theorem OwnS.row {w : World} {B : Nat} {E : TypeId} {v : Value} {ps : List ByteArray} (h : OwnS B E w v ps) (hn : 0 < ps.length) : RowS w v ps := by
  have h' := h
  rcases h.2 with ⟨_, h0⟩ | ⟨g, cap, cur, hv, hg, hh, hc, _⟩
  · omega
  · refine ⟨g, cap, hv, hc, (Array.getElem?_eq_some_iff.1 hh).1, fun j x hj => ?_⟩
    have := World.ownsRow.cells h' (g := g) (by rw [hv]; rfl) j (.string x) (by rw [List.getElem?_map, hj]; rfl)
    rwa [show (⟨g, 0, none⟩ : Addr).add j = ⟨g, j, none⟩ by unfold Addr.add; split <;> simp_all] at this
theorem OwnS.at_ {w : World} {B : Nat} {E : TypeId} {g n c : Nat} {ps : List ByteArray} (h : OwnS B E w (.slice (some ⟨g, 0, none⟩) n c) ps) (j : Nat) (hj : j < ps.length) : w.cell? ⟨g, j, none⟩ = some (.string (ps.getD j ⟨#[]⟩)) := by
  have := World.ownsRow.cells h (g := g) rfl j (.string (ps.getD j ⟨#[]⟩)) (by rw [List.getElem?_map, List.getElem?_eq_getElem hj, List.getD_eq_getElem?_getD, List.getElem?_eq_getElem hj]; rfl)
  rwa [show (⟨g, 0, none⟩ : Addr).add j = ⟨g, j, none⟩ by unfold Addr.add; split <;> simp_all] at this
theorem OwnS.frozen {w : World} {B : Nat} {E : TypeId} {g n c : Nat} {ps : List ByteArray} (h : OwnS B E w (.slice (some ⟨g, 0, none⟩) n c) ps) (j : Nat) : w.frozen? ⟨g, j, none⟩ = false := by
  rcases h.2 with ⟨h', _⟩ | ⟨g', cap', cur, h', _, hh, _⟩
  · simp at h'
  · simp only [Value.slice.injEq, Option.some.injEq, Addr.mk.injEq] at h'
    obtain ⟨⟨rfl, _⟩, _⟩ := h'
    simp [World.frozen?, hh]
/-- A text of the row is written over. -/
theorem OwnS.set {w : World} {B : Nat} {E : TypeId} {g c n : Nat} {ps : List ByteArray} (h : OwnS B E w (.slice (some ⟨g, 0, none⟩) n c) ps) (j : Nat) (x : ByteArray) (hj : j < ps.length) :
    OwnS B E (w.setCell ⟨g, j, none⟩ (.string x)) (.slice (some ⟨g, 0, none⟩) n c) (ps.set j x) := by
  unfold OwnS at h ⊢
  rw [List.length_set]
  have hn : n = ps.length := by
    rcases h.2 with ⟨h', _⟩ | ⟨g', cap', cur, h', _⟩
    · simp at h'
    · simp only [Value.slice.injEq] at h'; exact h'.2.1
  subst hn
  have := (World.ownsRow.stored h j (.string x)).1
  rwa [show (ps.map Value.string).set j (.string x) = (ps.set j x).map Value.string by rw [List.map_set]] at this
theorem OwnS.one (w : World) (E : TypeId) (B : Nat) (hB : B ≤ w.heap.size) (x : ByteArray) : OwnS B E (w.alloc (.cells #[.string x] E)) (.slice (some ⟨w.heap.size, 0, none⟩) 1 1) [x] :=
  ⟨rfl, .inr ⟨_, 1, _, rfl, hB, heap_alloc_new w _, Nat.le_refl _, by decide, rfl, rfl⟩⟩
theorem Grew.pushS {w0 w w' : World} {E : TypeId} {v : Value} {ps : List ByteArray} (g : Grew w0 w) (h : OwnS w0.heap.size E w v ps) (hg : w.grownBy w' v.ownBlock) : Grew w0 w' :=
  Below.grown g hg g.size (fun b hb => (World.ownsRow.lt h b hb).1)

section
variable {P : Program} (w : World)
/-- 'append(out, x)' of one text, the row the call's own. -/
theorem wpList_pushS {ops : Array Oper} {rest : List Oper} {o : Oper} {a : Act} {Q : Exit → Act → World → Prop} (hgd : o.guard = none) (s x : Operand) (t : TypeId)
    (ho : o.op = .call { callee := .builtin .append, args := #[s, x], argTypes := #[t, t] })
    (base : Nat) (E : TypeId) (ht : P.underlying t = some (.slice E)) (hi : (P.info? E).map (fun i => (i.zero, i.size, i.bytes)) = some (some (.string ByteArray.empty), 1, 16))
    (v : Value) (ps : List ByteArray) (hs : a.eval s = v) (hown : OwnS base E w v ps)
    (ad : Addr) (p : ByteArray) (hx : a.eval x = .slice (some ad) 1 1) (hc : w.cell? ad = some (.string p))
    (hlen : (ps.length + 1) * 16 ≤ 140737488355328) (hbase : base ≤ w.heap.size)
    (h : ∀ v' w', OwnS base E w' v' (ps ++ [p]) → w.grownBy w' v.ownBlock → wpList P ops Q rest (a.put o.dst v') w') : wpList P ops Q (o :: rest) a w := by
  obtain ⟨i, hi0, hz0, hz1, hz2⟩ := info_parts hi
  refine wpList_append_own w hgd s x t ho base E i (.string ByteArray.empty) 1 16 ht hi0 hz0 hz1 hz2 rfl (by decide) v ps.length (ps.map Value.string) hs hown ad 1 1 [.string p] hx rfl ?_ ?_ ?_ hlen hbase ?_
  · intro j u hj
    match j, hj with
    | 0, hj => simp at hj; subst hj; simpa [Addr.add] using hc
  · intro u hu; simp at hu; subst hu; rfl
  · unfold maxLen; omega
  · intro v' w' h1 h2 _
    refine h v' w' ?_ h2
    unfold OwnS
    simpa using h1
end
/- strings.Split at one byte: no cell is asked for. -/
open Go.Shelf Go.RowKit Go.Lib
variable {P : Program} {ρ : Ren}

set_option maxHeartbeats 1000000 in
theorem Any_strings_Split_one (L : Lays.n146 P ρ) (hi9 : (P.info? (ρ.t 9)).map (fun i => (i.zero, i.size, i.bytes)) = some (some (.string ByteArray.empty), 1, 16)) (s : ByteArray) (w : World) (hs : s.size < 4294967281) :
    Calls P (ρ.f 146) #[.string s, .string ⟨#[44]⟩] w fun e w' =>
      e = .returned (.slice (some ⟨w.heap.size, 0, none⟩) (partsB s).length (partsB s).length) ∧ w' = w.alloc (.cells ((partsB s).map Value.string).toArray (ρ.t 9)) := by
  rw [show partsB s = Lib.splitB ⟨#[44]⟩ 0 (Lib.countB s ⟨#[44]⟩) s from cutTo_all s]
  have hle := Lib.countB_le ⟨#[44]⟩ (by decide) s.size s (Nat.le_refl _)
  have hlen := Lib.splitB_all ⟨#[44]⟩ (by decide) 0 _ s rfl
  have c := Any.strings_genSplit_core { L with } hi9 s ⟨#[44]⟩ 0 (-1) (Lib.countB s ⟨#[44]⟩ + 1) w hs (by decide) (Nat.zero_le _)
    (fun x c hx => (Any.strings_Index_one { L with } x 44 _).mono fun e w' ⟨he, hw⟩ => ⟨by rw [he, ← Lib.index_one], hw⟩)
    ((Any.strings_Count_one { L with } s 44 w).mono fun e w' ⟨he, hw⟩ => ⟨by
      rw [he]
      show _ = Ending.returned (Value.int .i64 ((Lib.count s.data.toList [44] : Nat) : Int))
      rw [Lib.count_one]
      rfl, hw⟩)
    (by decide) (by decide) (by rw [if_pos (by decide)]; omega)
  rw [Nat.add_sub_cancel, hlen] at c
  have e2 : Lib.cellsOf (Lib.splitB ⟨#[44]⟩ 0 (Lib.countB s ⟨#[44]⟩) s) (Lib.countB s ⟨#[44]⟩ + 1) = ((Lib.splitB ⟨#[44]⟩ 0 (Lib.countB s ⟨#[44]⟩) s).map Value.string).toArray := by rw [← hlen]; exact Lib.cellsOf_full _
  rw [e2] at c
  rw [hlen]
  have t3 := L.t3; have t9 := L.t9; have t31 := L.t31
  have a3 := L.a3; have a9 := L.a9; have a31 := L.a31
  have z3 := L.z3; have v3 := L.v3; have z9 := L.z9; have v9 := L.v9; have z31 := L.z31; have v31 := L.v31
  have e221 : ∀ args w, (callFunc (ρ.f 221) args).run P w = .ok (.enter (ρ.f 221) args) w := enters_of L.f221 (by kernel_rfl) rfl
  go_enter L.f146, Body.n146_ntmps ρ
  go_wp2_with (go_at_fn (ρ.f 221); refine c.mono ?_; rintro e w' ⟨rfl, hw⟩; rw [hw])
  go_ret
  exact ⟨rfl, rfl⟩
/- Texts parted at commas: the document's Split, byte by byte, and the program's, by the library's. -/
theorem infoStr : (Tryz.prog.info? 9).map (fun i => (i.zero, i.size, i.bytes)) = some (some (.string ByteArray.empty), 1, 16) := by kernel_rfl
theorem one_cut (s : ByteArray) (j : Nat) (h : j < s.size) : s.extract j (j + 1) = ⟨#[s[j]]⟩ := by
  apply bytesOf_inj
  unfold bytesOf
  rw [ByteArray.data_extract, Array.toList_extract, List.extract_eq_take_drop, Nat.add_sub_cancel_left]
  have h2 : j < s.data.toList.length := by rw [Array.length_toList]; exact h
  rw [List.drop_eq_getElem_cons h2]
  rfl
theorem cut_comma (s : ByteArray) (j : Nat) (h : j < s.size) (hc : wd (nat s) j = 44) : cutTo s (j + 1) = cutTo s j ++ [⟨#[]⟩] := by
  rw [cutTo_succ s j h]
  unfold cut1
  rw [if_pos]
  apply UInt8.toNat_inj.1
  rw [nat_wd s j h, hc]; rfl
theorem cut_other (s : ByteArray) (j : Nat) (h : j < s.size) (hc : ¬ wd (nat s) j = 44) : cutTo s (j + 1) = (cutTo s j).set ((cutTo s j).length - 1) ((cutTo s j).getD ((cutTo s j).length - 1) ⟨#[]⟩ ++ s.extract j (j + 1)) := by
  rw [cutTo_succ s j h, one_cut s j h]
  unfold cut1
  rw [if_neg]
  intro e
  rw [← nat_wd s j h, e] at hc
  exact hc rfl
/-- What a Split has told. -/
def Parted (s : ByteArray) (w : World) (e : Ending) (w' : World) : Prop := ∃ v, e = .returned v ∧ RowS w' v (partsB s) ∧ Grew w w'
theorem fld_Split (s : ByteArray) (w : World) (hs : s.size ≤ 1000) : Calls Tryz.prog 19 #[.string s] w (Parted s w) := by
  have HS := fun w => Lib.hid (Any_strings_Split_one Tryz.lays146 (by kernel_rfl) s w (by omega))
  go_enter Tryz.func19, Tryz.ntmps19
  go_wp2_with (first | (go_at_call 34; refine (HS _).out.mono ?_; rintro e w1 ⟨rfl, rfl⟩))
  go_ret
  refine ⟨_, rfl, ⟨_, _, rfl, Nat.le_refl _, by simp, fun j x hj => ?_⟩, (Grew.refl w).alloc _⟩
  rw [cell_of_row _ _ _ _ _ _ (heap_alloc_new w _)]
  simp [hj]
end Go.Proofs.YtlcmjedbdopglaaGreatDoor
