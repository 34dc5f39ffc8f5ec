/-
  Texts parted at commas, as plain lists of bytes: the parts, byte by byte; joined again; no comma in a part.
-/
import Derived.Test.YtajgicliepenkaaDoorRefA
import Derived.Lib.SplitLaws
import Derived.Lib.Join
namespace Go.Proofs.YtajgicliepenkaaDoor
set_option linter.unusedVariables false

/-- A text ahead of the first part. -/
def glue (x : List UInt8) : List (List UInt8) → List (List UInt8)
  | [] => [x]
  | p :: ps => (x ++ p) :: ps
/-- The parts between commas. -/
def partsL : List UInt8 → List (List UInt8)
  | [] => [[]]
  | c :: l => if c = 44 then [] :: partsL l else glue [c] (partsL l)
theorem partsL_ne : ∀ l, ∃ p ps, partsL l = p :: ps
  | [] => ⟨[], [], rfl⟩
  | c :: l => by
    obtain ⟨p, ps, h⟩ := partsL_ne l
    unfold partsL
    split
    · exact ⟨_, _, rfl⟩
    · rw [h]; exact ⟨_, _, rfl⟩
theorem glue_glue (x y : List UInt8) (L : List (List UInt8)) (h : ∃ p ps, L = p :: ps) : glue x (glue y L) = glue (x ++ y) L := by
  obtain ⟨p, ps, rfl⟩ := h
  simp [glue]
theorem glue_nil (L : List (List UInt8)) (h : ∃ p ps, L = p :: ps) : glue [] L = L := by
  obtain ⟨p, ps, rfl⟩ := h
  rfl
theorem splitK_parts : ∀ l : List UInt8, Lib.splitK [44] 0 (Lib.count l [44]) l = partsL l
  | [] => rfl
  | c :: l => by
    have ih := splitK_parts l
    by_cases hc : c = 44
    · subst hc
      have hix : Lib.index (44 :: l) [44] = 0 := by rw [Lib.index]; simp [List.isPrefixOf]
      rw [Lib.count_cons_eq, Nat.add_comm 1, Lib.splitK, hix, partsL, if_pos rfl, if_neg (by decide), ← ih]
      rfl
    · have hp : ([44] : List UInt8).isPrefixOf (c :: l) = false := by simp [List.isPrefixOf, Ne.symm hc]
      have hix : Lib.index (c :: l) [44] = if Lib.index l [44] == -1 then -1 else Lib.index l [44] + 1 := by rw [Lib.index, hp]; simp
      rw [Lib.count_cons_ne c 44 l hc, partsL, if_neg hc, ← ih]
      cases hk : Lib.count l [44] with
      | zero => rfl
      | succ k =>
        rw [Lib.splitK, Lib.splitK, hix]
        by_cases hm : Lib.index l [44] = -1
        · rw [if_pos (beq_iff_eq.2 hm), if_pos (beq_iff_eq.2 rfl), if_pos (beq_iff_eq.2 hm)]; rfl
        · have hge := Lib.index_ge l [44]
          obtain ⟨j, hj⟩ : ∃ j : Nat, Lib.index l [44] = j := ⟨(Lib.index l [44]).toNat, by omega⟩
          rw [if_neg (fun e => hm (beq_iff_eq.1 e)), if_neg (fun e => by have := beq_iff_eq.1 e; omega), if_neg (fun e => hm (beq_iff_eq.1 e)), hj]
          rw [show (((j : Nat) : Int) + 1).toNat = j + 1 by omega, show ((j : Nat) : Int).toNat = j by omega]
          simp [glue, List.take_succ_cons]
theorem join_glue (c : UInt8) (L : List (List UInt8)) (h : ∃ p ps, L = p :: ps) : Lib.join (glue [c] L) [44] = c :: Lib.join L [44] := by
  obtain ⟨p, ps, rfl⟩ := h
  rw [glue, Lib.join_cons, Lib.join_cons]; rfl
theorem join_parts : ∀ l : List UInt8, Lib.join (partsL l) [44] = l
  | [] => rfl
  | c :: l => by
    unfold partsL
    split
    · rename_i h
      subst h
      obtain ⟨p, ps, e⟩ := partsL_ne l
      have ih := join_parts l
      rw [e, Lib.join_cons] at ih
      rw [Lib.join_cons, e, ← ih]
      simp [Lib.joinTail]
    · rw [join_glue c _ (partsL_ne l), join_parts l]
theorem parts_no : ∀ l : List UInt8, ∀ p ∈ partsL l, (44 : UInt8) ∉ p
  | [] => by simp [partsL]
  | c :: l => by
    have ih := parts_no l
    obtain ⟨p, ps, e⟩ := partsL_ne l
    intro q hq
    unfold partsL at hq
    split at hq
    · rcases List.mem_cons.1 hq with rfl | h
      · simp
      · exact ih q h
    · rename_i hc
      rw [e] at hq ih
      rcases List.mem_cons.1 hq with rfl | h
      · intro hm
        rcases List.mem_append.1 hm with h | h
        · exact hc (List.mem_singleton.1 h).symm
        · exact ih p (List.mem_cons_self ..) h
      · exact ih q (List.mem_cons_of_mem _ h)
theorem parts_length : ∀ l : List UInt8, (partsL l).length ≤ l.length + 1
  | [] => Nat.le_refl _
  | c :: l => by
    have ih := parts_length l
    obtain ⟨p, ps, e⟩ := partsL_ne l
    unfold partsL
    split
    · rw [List.length_cons, List.length_cons]; omega
    · rw [e] at ih ⊢
      rw [glue, List.length_cons, List.length_cons]; rw [List.length_cons] at ih; omega
theorem parts_size : ∀ l : List UInt8, ∀ p ∈ partsL l, p.length ≤ l.length
  | [] => by simp [partsL]
  | c :: l => by
    have ih := parts_size l
    obtain ⟨p, ps, e⟩ := partsL_ne l
    intro q hq
    unfold partsL at hq
    rw [List.length_cons]
    split at hq
    · rcases List.mem_cons.1 hq with rfl | h
      · simp
      · have := ih q h; omega
    · rw [e] at hq ih
      rcases List.mem_cons.1 hq with rfl | h
      · have := ih p (List.mem_cons_self ..)
        rw [List.length_append, List.length_singleton]; omega
      · have := ih q (List.mem_cons_of_mem _ h); omega

/-- One byte more: a part more, or the last one is longer. -/
def cut1 (ps : List ByteArray) (c : UInt8) : List ByteArray := if c = 44 then ps ++ [⟨#[]⟩] else ps.set (ps.length - 1) (ps.getD (ps.length - 1) ⟨#[]⟩ ++ ⟨#[c]⟩)
/-- The parts of a text's first bytes. -/
def cutTo (s : ByteArray) (i : Nat) : List ByteArray := (s.data.toList.take i).foldl cut1 [⟨#[]⟩]
theorem cutTo_zero (s : ByteArray) : cutTo s 0 = [⟨#[]⟩] := rfl
theorem cutTo_succ (s : ByteArray) (i : Nat) (h : i < s.size) : cutTo s (i + 1) = cut1 (cutTo s i) s[i] := by
  unfold cutTo
  rw [List.take_add_one, List.foldl_append]
  have h2 : i < s.data.size := h
  rw [Array.getElem?_toList, Array.getElem?_eq_getElem h2]
  rfl
theorem cut1_last (ps : List ByteArray) (q : ByteArray) (c : UInt8) (hc : ¬ c = 44) : cut1 (ps ++ [q]) c = ps ++ [q ++ ⟨#[c]⟩] := by
  unfold cut1
  rw [if_neg hc, List.length_append, List.length_singleton, Nat.add_sub_cancel, List.getD_eq_getElem?_getD, List.getElem?_append_right (Nat.le_refl _), Nat.sub_self]
  rw [List.set_append_right _ _ (Nat.le_refl _), Nat.sub_self]
  rfl
def bytesOf (s : ByteArray) : List UInt8 := s.data.toList
theorem bytesOf_inj {s t : ByteArray} (h : bytesOf s = bytesOf t) : s = t := by
  obtain ⟨a⟩ := s
  obtain ⟨b⟩ := t
  have : a = b := Array.toList_inj.1 h
  rw [this]
theorem bytesOf_append (s t : ByteArray) : bytesOf (s ++ t) = bytesOf s ++ bytesOf t := by
  unfold bytesOf
  rw [ByteArray.data_append, Array.toList_append]
theorem fold_cut : ∀ (l : List UInt8) (ps : List ByteArray) (q : ByteArray), (l.foldl cut1 (ps ++ [q])).map bytesOf = ps.map bytesOf ++ glue (bytesOf q) (partsL l)
  | [], ps, q => by rw [List.foldl_nil, List.map_append, List.map_cons, List.map_nil, partsL, glue, List.append_nil]
  | c :: l, ps, q => by
    rw [List.foldl_cons]
    by_cases hc : c = 44
    · subst hc
      have e : cut1 (ps ++ [q]) 44 = (ps ++ [q]) ++ [⟨#[]⟩] := by unfold cut1; rw [if_pos rfl]
      rw [e, fold_cut l, List.map_append, List.append_assoc]
      congr 1
      rw [partsL, if_pos rfl, show bytesOf (⟨#[]⟩ : ByteArray) = [] from rfl, glue_nil _ (partsL_ne l), glue, List.append_nil]
      rfl
    · rw [cut1_last _ _ _ hc, fold_cut l, partsL, if_neg hc, glue_glue _ _ _ (partsL_ne l), bytesOf_append]
      rfl
/-- Byte by byte as all at once. -/
theorem cutTo_all (s : ByteArray) : cutTo s s.size = Lib.splitB ⟨#[44]⟩ 0 (Lib.countB s ⟨#[44]⟩) s := by
  have h1 : (cutTo s s.size).map bytesOf = partsL (bytesOf s) := by
    unfold cutTo
    rw [List.take_of_length_le (by rw [Array.length_toList]; exact Nat.le_refl _)]
    have := fold_cut (bytesOf s) [] ⟨#[]⟩
    rw [List.nil_append, List.map_nil, List.nil_append, show bytesOf (⟨#[]⟩ : ByteArray) = [] from rfl, glue_nil _ (partsL_ne _)] at this
    exact this
  have h2 : (Lib.splitB ⟨#[44]⟩ 0 (Lib.countB s ⟨#[44]⟩) s).map bytesOf = partsL (bytesOf s) := by
    have := Lib.splitB_data ⟨#[44]⟩ 0 (Lib.countB s ⟨#[44]⟩) s
    exact this.trans (splitK_parts _)
  exact (List.map_inj_right (fun a b hab => bytesOf_inj hab)).1 (h1.trans h2.symm)
theorem cutTo_length (s : ByteArray) : ∀ i, 1 ≤ (cutTo s i).length ∧ (cutTo s i).length ≤ i + 1 := by
  have h : ∀ (l : List UInt8) (ps : List ByteArray), 1 ≤ ps.length → 1 ≤ (l.foldl cut1 ps).length ∧ (l.foldl cut1 ps).length ≤ l.length + ps.length := by
    intro l
    induction l with
    | nil => intro ps h; simp [h]
    | cons c l ih =>
      intro ps h
      rw [List.foldl_cons]
      have e : 1 ≤ (cut1 ps c).length ∧ (cut1 ps c).length ≤ ps.length + 1 := by
        unfold cut1
        split
        · rw [List.length_append, List.length_singleton]; omega
        · rw [List.length_set]; omega
      have := ih (cut1 ps c) e.1
      rw [List.length_cons]
      omega
  intro i
  have := h (s.data.toList.take i) [⟨#[]⟩] (by simp)
  unfold cutTo
  rw [List.length_singleton, List.length_take] at this
  omega
theorem cutTo_size (s : ByteArray) : ∀ i, ∀ p ∈ cutTo s i, p.size ≤ i := by
  have h : ∀ (l : List UInt8) (ps : List ByteArray) (n : Nat), (∀ p ∈ ps, p.size ≤ n) → ∀ p ∈ l.foldl cut1 ps, p.size ≤ n + l.length := by
    intro l
    induction l with
    | nil => intro ps n h; simpa using h
    | cons c l ih =>
      intro ps n h p hp
      rw [List.foldl_cons] at hp
      have := ih (cut1 ps c) (n + 1) (fun q hq => ?_) p hp
      · rw [List.length_cons]; omega
      · unfold cut1 at hq
        split at hq
        · rcases List.mem_append.1 hq with h1 | h1
          · have := h q h1; omega
          · rw [List.mem_singleton.1 h1]; exact Nat.zero_le _
        · rcases List.mem_or_eq_of_mem_set hq with h1 | h1
          · have := h q h1; omega
          · rw [h1, ByteArray.size_append]
            have : (ps.getD (ps.length - 1) ⟨#[]⟩).size ≤ n := by
              rw [List.getD_eq_getElem?_getD]
              cases hx : ps[ps.length - 1]? with
              | none => exact Nat.zero_le _
              | some y => exact h y (List.mem_of_getElem? hx)
            have e : (⟨#[c]⟩ : ByteArray).size = 1 := rfl
            omega
  intro i p hp
  have := h (s.data.toList.take i) [⟨#[]⟩] 0 (fun q hq => by rw [List.mem_singleton.1 hq]; exact Nat.zero_le _) p hp
  rw [List.length_take] at this
  omega
/-- The parts of a whole text. -/
def partsB (s : ByteArray) : List ByteArray := cutTo s s.size
theorem partsB_bytes (s : ByteArray) : (partsB s).map bytesOf = partsL (bytesOf s) := by
  unfold partsB
  rw [cutTo_all]
  exact (Lib.splitB_data ⟨#[44]⟩ 0 (Lib.countB s ⟨#[44]⟩) s).trans (splitK_parts _)
theorem partsB_length (s : ByteArray) : (partsB s).length = Lib.countB s ⟨#[44]⟩ + 1 := by
  unfold partsB
  rw [cutTo_all]
  exact Lib.splitB_all ⟨#[44]⟩ (by decide) 0 _ s rfl
theorem partsB_le (s : ByteArray) : (partsB s).length ≤ s.size + 1 := (cutTo_length s s.size).2
theorem partsB_pos (s : ByteArray) : 0 < (partsB s).length := (cutTo_length s s.size).1
theorem partsB_size (s : ByteArray) (p : ByteArray) (h : p ∈ partsB s) : p.size ≤ s.size := by
  have h2 : bytesOf p ∈ partsL (bytesOf s) := by rw [← partsB_bytes]; exact List.mem_map_of_mem h
  have := parts_size _ _ h2
  unfold bytesOf at this
  rw [Array.length_toList, Array.length_toList] at this
  exact this
theorem partsB_no (s : ByteArray) (p : ByteArray) (h : p ∈ partsB s) : (44 : UInt8) ∉ p.data.toList := by
  have h2 : bytesOf p ∈ partsL (bytesOf s) := by rw [← partsB_bytes]; exact List.mem_map_of_mem h
  exact parts_no _ _ h2
theorem partsB_join (s : ByteArray) : Lib.join ((partsB s).map (·.data.toList)) [44] = s.data.toList := by
  have := join_parts (bytesOf s)
  rw [← partsB_bytes] at this
  exact this
end Go.Proofs.YtajgicliepenkaaDoor
