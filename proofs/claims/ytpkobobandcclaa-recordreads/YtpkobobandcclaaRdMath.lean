/- Numbers and texts as bytes, laid and read, over lists: texts' bytes, what is read at a place, lists of numbers. No program in this text. (It takes the place of what stage 1's Awake, Read and BackMath say of lists: never import both.) -/
import Derived.Test.YtpkobobandcclaaMath
namespace Go.Proofs.Ytpkobobandcclaa
open Go.RowKit
set_option linter.unusedVariables false

/-- A text's bytes. -/
def nums (s : ByteArray) : List Int := s.data.toList.map fun b => (b.toNat : Int)
theorem nums_length (s : ByteArray) : (nums s).length = s.size := by unfold nums; rw [List.length_map, Array.length_toList]; rfl
theorem str_cel (s : ByteArray) : Lib.strCells s = cel (nums s) := by
  simp [Lib.strCells, cel, nums]
theorem Byt.nums (s : ByteArray) : Byt (nums s) := fun x hx => by
  unfold Ytpkobobandcclaa.nums at hx
  obtain ⟨b, _, rfl⟩ := List.mem_map.1 hx
  have := b.toNat_lt
  omega
theorem str_back (s : ByteArray) : strOfNums (nums s) = s := by
  have e : (nums s).map (fun n => UInt8.ofNat n.toNat) = s.data.toList := by
    unfold nums
    rw [List.map_map]
    conv => rhs; rw [← List.map_id s.data.toList]
    apply List.map_congr_left
    intro b _
    simp
  unfold strOfNums
  rw [e]
theorem nums_inj {s t : ByteArray} (h : nums s = nums t) : s = t := by rw [← str_back s, h, str_back]
theorem nums_back {l : List Int} (h : Byt l) : nums (strOfNums l) = l := by
  unfold nums strOfNums
  simp only [List.map_map]
  conv => rhs; rw [← List.map_id l]
  apply List.map_congr_left
  intro x hx
  have := h x hx
  simp only [Function.comp, id, UInt8.toNat_ofNat']
  omega
theorem str_size {l : List Int} (h : Byt l) : (strOfNums l).size = l.length := by rw [← nums_length, nums_back h]

/-- There is no number at that place. -/
def noNum (l : List Int) (i : Int) : Prop := i < 0 ∨ (l.length : Int) - 8 < i
instance (l : List Int) (i : Int) : Decidable (noNum l i) := by unfold noNum; exact inferInstance
def numAt (l : List Int) (i : Int) : Int := num8 ((l.drop i.toNat).take 8)
def rdNum (l : List Int) (i : Int) : Int × Int × Bool := if noNum l i then (0, 0, false) else (numAt l i, i + 8, true)
/-- There is no text at that place. -/
def noText (l : List Int) (i : Int) : Prop := noNum l i ∨ numAt l i < 0 ∨ (l.length : Int) - (i + 8) < numAt l i
instance (l : List Int) (i : Int) : Decidable (noText l i) := by unfold noText; exact inferInstance
def rdText (l : List Int) (i : Int) : ByteArray × Int × Bool := if noText l i then (⟨#[]⟩, 0, false) else (strOfNums ((l.drop (i.toNat + 8)).take (numAt l i).toNat), i + 8 + numAt l i, true)

/-- A number of 64 bits. -/
def Fit (x : Int) : Prop := -9223372036854775808 ≤ x ∧ x ≤ 9223372036854775807
theorem num8_fit (l : List Int) : Fit (num8 l) := by
  unfold num8 wrap64 Fit
  omega
/-- Eight bytes are those of their number. -/
theorem be8_num8 {l : List Int} (h : Byt l) (hl : l.length = 8) : be8 (num8 l) = l := by
  match l, hl with
  | [a, b, c, d, e, f, g, i], _ =>
    have ha := h a (by simp)
    have hb := h b (by simp)
    have hc := h c (by simp)
    have hd := h d (by simp)
    have he := h e (by simp)
    have hf := h f (by simp)
    have hg := h g (by simp)
    have hi := h i (by simp)
    have hu : IntKind.u64.wrap (num8 [a, b, c, d, e, f, g, i]) = acc [a, b, c, d, e, f, g, i] := by
      have hb := acc_bd _ h
      rw [uwrap_eq]
      unfold num8 wrap64
      simp only [List.length_cons, List.length_nil, Nat.zero_add, Nat.reduceAdd, Int.reducePow] at hb
      omega
    have e8 : ∀ n, be8 n = [byt n 0, byt n 1, byt n 2, byt n 3, byt n 4, byt n 5, byt n 6, byt n 7] := fun n => rfl
    rw [e8]
    simp only [byt, hu]
    simp only [acc, List.foldl, Nat.reduceMul, Nat.reduceSub, Int.reducePow]
    simp only [List.cons.injEq, and_true]
    refine ⟨?_, ?_, ?_, ?_, ?_, ?_, ?_, ?_⟩ <;> omega
theorem be8_inj {x y : Int} (hx : Fit x) (hy : Fit y) (h : be8 x = be8 y) : x = y := by
  rw [← num8_be8 x hx, h, num8_be8 y hy]
theorem be8_app {x y : Int} {s t : List Int} (hx : Fit x) (hy : Fit y) (h : be8 x ++ s = be8 y ++ t) : x = y ∧ s = t := by
  have := List.append_inj h (by rw [be8_length, be8_length])
  exact ⟨be8_inj hx hy this.1, this.2⟩

/-- A text, its length ahead of it. -/
def txt (s : ByteArray) : List Int := be8 s.size ++ nums s
theorem txt_length (s : ByteArray) : (txt s).length = 8 + s.size := by unfold txt; rw [List.length_append, be8_length, nums_length]
theorem Byt.txt (s : ByteArray) : Byt (txt s) := Byt.append (Byt.be8 _) (Byt.nums s)
theorem txt_app {s t : ByteArray} {a b : List Int} (hs : Fit s.size) (ht : Fit t.size) (h : txt s ++ a = txt t ++ b) : s = t ∧ a = b := by
  unfold txt at h
  rw [List.append_assoc, List.append_assoc] at h
  obtain ⟨h1, h2⟩ := be8_app hs ht h
  have := List.append_inj h2 (by rw [nums_length, nums_length]; omega)
  exact ⟨nums_inj this.1, this.2⟩

/-- What lies at a place is read. -/
theorem rd_suf {c s : List Int} {a : Nat} {x : Int} (hx : Fit x) (h : c.drop a = be8 x ++ s) : rdNum c a = (x, ((a + 8 : Nat) : Int), true) ∧ c.drop (a + 8) = s := by
  have hl := congrArg List.length h
  rw [List.length_drop, List.length_append, be8_length] at hl
  refine ⟨?_, ?_⟩
  · unfold rdNum
    rw [if_neg (by unfold noNum; omega)]
    unfold numAt
    rw [Int.toNat_natCast, h, List.take_append_of_le_length (by rw [be8_length]; omega), be8_take8, num8_be8 x hx]
    rfl
  · rw [← List.drop_drop, h]
    have := List.drop_left (l₁ := be8 x) (l₂ := s)
    rwa [be8_length] at this
theorem rdt_suf {c t : List Int} {a : Nat} {s : ByteArray} (hs : Fit s.size) (h : c.drop a = txt s ++ t) : rdText c a = (s, ((a + 8 + s.size : Nat) : Int), true) ∧ c.drop (a + 8 + s.size) = t := by
  have hl := congrArg List.length h
  rw [List.length_drop, List.length_append, txt_length] at hl
  have h1 : c.drop a = be8 s.size ++ (nums s ++ t) := by rw [h]; unfold txt; rw [List.append_assoc]
  obtain ⟨h2, h3⟩ := rd_suf hs h1
  have h4 : numAt c a = s.size := by
    unfold rdNum at h2
    split at h2
    · simp at h2
    · simpa using congrArg Prod.fst h2
  refine ⟨?_, ?_⟩
  · unfold rdText
    rw [if_neg (by unfold noText noNum; omega), h4, Int.toNat_natCast, Int.toNat_natCast, h3, ← nums_length s, List.take_left, str_back, nums_length]
    simp
  · rw [show a + 8 + s.size = (a + 8) + s.size from rfl, ← List.drop_drop, h3, ← nums_length s, List.drop_left]
/-- What is read at a place lies there. -/
theorem rd_pre {c : List Int} {a : Nat} {x y : Int} (hB : Byt c) (h : rdNum c a = (x, y, true)) : Fit x ∧ y = ((a + 8 : Nat) : Int) ∧ a + 8 ≤ c.length ∧ c.drop a = be8 x ++ c.drop (a + 8) := by
  unfold rdNum at h
  split at h
  · simp at h
  · rename_i hn
    simp only [Prod.mk.injEq, and_true] at h
    obtain ⟨rfl, rfl⟩ := h
    unfold noNum at hn
    have hle : a + 8 ≤ c.length := by omega
    refine ⟨num8_fit _, rfl, hle, ?_⟩
    unfold numAt
    rw [Int.toNat_natCast, be8_num8 ((hB.drop a).take 8) (by simp; omega), ← List.drop_drop, List.take_append_drop]
theorem rdt_pre {c : List Int} {a : Nat} {s : ByteArray} {y : Int} (hB : Byt c) (h : rdText c a = (s, y, true)) : Fit s.size ∧ y = ((a + 8 + s.size : Nat) : Int) ∧ a + 8 + s.size ≤ c.length ∧ c.drop a = txt s ++ c.drop (a + 8 + s.size) := by
  unfold rdText at h
  split at h
  · simp at h
  · rename_i hn
    simp only [Prod.mk.injEq, and_true] at h
    obtain ⟨hs, hy⟩ := h
    unfold noText noNum at hn
    have hle : a + 8 ≤ c.length := by omega
    obtain ⟨q, hq⟩ := Int.eq_ofNat_of_zero_le (show 0 ≤ numAt c a by omega)
    rw [hq, Int.toNat_natCast, Int.toNat_natCast] at hs
    rw [hq] at hy hn
    have hql : q + (a + 8) ≤ c.length := by omega
    have hB2 : Byt ((c.drop (a + 8)).take q) := (hB.drop _).take q
    have hsz : s.size = q := by rw [← hs, str_size hB2, List.length_take, List.length_drop]; omega
    have hr : rdNum c a = (numAt c a, (a : Int) + 8, true) := by unfold rdNum; rw [if_neg (by unfold noNum; omega)]
    obtain ⟨h1, _, _, h4⟩ := rd_pre hB hr
    refine ⟨by rw [hsz, ← hq]; exact h1, by rw [← hy, hsz]; omega, by omega, ?_⟩
    rw [h4, hq, ← hsz]
    unfold txt
    rw [List.append_assoc]
    congr 1
    have : nums s = (c.drop (a + 8)).take q := by rw [← hs, nums_back hB2]
    rw [this, hsz, show a + 8 + q = (a + 8) + q from rfl, ← List.drop_drop (i := q) (j := a + 8), List.take_append_drop]
theorem rd_bad {c : List Int} {a : Nat} (h : (rdNum c a).2.2 = false) : ∀ x s, Fit x → c.drop a ≠ be8 x ++ s := by
  intro x s hx e
  rw [(rd_suf hx e).1] at h
  cases h
theorem rdt_bad {c : List Int} {a : Nat} (h : (rdText c a).2.2 = false) : ∀ x s, Fit (ByteArray.size x) → c.drop a ≠ txt x ++ s := by
  intro x s hx e
  rw [(rdt_suf hx e).1] at h
  cases h

/-- Numbers, one behind the other. -/
def NB (ns : List Int) : List Int := ns.flatMap be8
theorem NB_cons (x : Int) (ns : List Int) : NB (x :: ns) = be8 x ++ NB ns := rfl
theorem NB_app (a b : List Int) : NB (a ++ b) = NB a ++ NB b := by simp [NB]
theorem NB_length (ns : List Int) : (NB ns).length = 8 * ns.length := by
  induction ns with
  | nil => rfl
  | cons n t ih => rw [NB_cons, List.length_append, be8_length, ih, List.length_cons]; omega
theorem Byt.NB (ns : List Int) : Byt (NB ns) := fun x hx => by
  unfold Ytpkobobandcclaa.NB at hx
  obtain ⟨n, _, h⟩ := List.mem_flatMap.1 hx
  exact Byt.be8 n x h
theorem NB_inj : ∀ (a b : List Int) (s t : List Int), (∀ x ∈ a, Fit x) → (∀ x ∈ b, Fit x) → a.length = b.length → NB a ++ s = NB b ++ t → a = b ∧ s = t
  | [], [], s, t, _, _, _, h => ⟨rfl, h⟩
  | [], _ :: _, _, _, _, _, hl, _ => by simp at hl
  | _ :: _, [], _, _, _, _, hl, _ => by simp at hl
  | x :: a, y :: b, s, t, ha, hb, hl, h => by
    rw [NB_cons, NB_cons, List.append_assoc, List.append_assoc] at h
    obtain ⟨h1, h2⟩ := be8_app (ha x (by simp)) (hb y (by simp)) h
    obtain ⟨h3, h4⟩ := NB_inj a b s t (fun z hz => ha z (List.mem_cons_of_mem _ hz)) (fun z hz => hb z (List.mem_cons_of_mem _ hz)) (by simpa using hl) h2
    exact ⟨by rw [h1, h3], h4⟩
end Go.Proofs.Ytpkobobandcclaa
