/- Pairs in order, over lists: keys by bytes, a stable sort, what is told apart by it. No program in this text. -/
import Derived.WalkKit
namespace Go.Proofs.Ytejkboahjfcdcaa
set_option linter.unusedVariables false

/-! ### Bytes -/
theorem lessB_irrefl : ∀ x : List UInt8, Op.bytesLess x x = false
  | [] => rfl
  | a :: x => by simp [Op.bytesLess, lessB_irrefl x]
theorem lessB_trans : ∀ x y z : List UInt8, Op.bytesLess x y = true → Op.bytesLess y z = true → Op.bytesLess x z = true
  | _, [], _, h, _ => by cases ‹List UInt8› <;> simp [Op.bytesLess] at h
  | _, _ :: _, [], _, h => by simp [Op.bytesLess] at h
  | [], _ :: _, _ :: _, _, _ => rfl
  | a :: x, b :: y, c :: z, h, k => by
    simp only [Op.bytesLess, Bool.or_eq_true, Bool.and_eq_true, decide_eq_true_eq, beq_iff_eq] at h k ⊢
    rcases h with h | ⟨rfl, h⟩
    · rcases k with k | ⟨rfl, k⟩
      · exact .inl (UInt8.lt_trans h k)
      · exact .inl h
    · rcases k with k | ⟨rfl, k⟩
      · exact .inl k
      · exact .inr ⟨rfl, lessB_trans x y z h k⟩
theorem lessB_total : ∀ x y : List UInt8, Op.bytesLess x y = false → Op.bytesLess y x = false → x = y
  | [], [], _, _ => rfl
  | [], _ :: _, h, _ => by simp [Op.bytesLess] at h
  | _ :: _, [], _, h => by simp [Op.bytesLess] at h
  | a :: x, b :: y, h, k => by
    simp only [Op.bytesLess, Bool.or_eq_false_iff, Bool.and_eq_false_iff, decide_eq_false_iff_not] at h k
    have hab : a = b := by
      have h1 := UInt8.not_lt.1 h.1
      have h2 := UInt8.not_lt.1 k.1
      exact UInt8.le_antisymm h2 h1
    subst hab
    have h2 : Op.bytesLess x y = false := by simpa using h.2
    have k2 : Op.bytesLess y x = false := by simpa using k.2
    rw [lessB_total x y h2 k2]

/-! ### Keys -/
def kLt (a b : ByteArray) : Bool := Op.bytesLess a.data.toList b.data.toList
theorem kLt_irrefl (a : ByteArray) : kLt a a = false := lessB_irrefl _
theorem kLt_trans {a b c : ByteArray} (h : kLt a b = true) (k : kLt b c = true) : kLt a c = true := lessB_trans _ _ _ h k
theorem kLt_total {a b : ByteArray} (h : kLt a b = false) (k : kLt b a = false) : a = b := by
  have := lessB_total _ _ h k
  cases a; cases b
  simp only [ByteArray.mk.injEq]
  exact Array.toList_inj.1 this
theorem kLt_asymm {a b : ByteArray} (h : kLt a b = true) : kLt b a = false := by
  cases k : kLt b a with
  | false => rfl
  | true => have := kLt_trans h k; rw [kLt_irrefl] at this; cases this
/-- Not below, and not below, is not below. -/
theorem kLe_trans {a b c : ByteArray} (h : kLt b a = false) (k : kLt c b = false) : kLt c a = false := by
  cases e : kLt c a with
  | false => rfl
  | true =>
    cases hab : kLt a b with
    | true => have := kLt_trans e hab; rw [k] at this; cases this
    | false =>
      obtain rfl := kLt_total hab h
      rw [k] at e
      cases e
theorem kLt_of_le_ne {a b : ByteArray} (h : kLt b a = false) (hn : a ≠ b) : kLt a b = true := by
  cases e : kLt a b with
  | true => rfl
  | false => exact absurd (kLt_total e h) hn

abbrev KV := ByteArray × ByteArray
/-- No key is below the one ahead. -/
def Rising (l : List KV) : Prop := l.Pairwise fun x y => kLt y.1 x.1 = false
/-- Those of a key, in their order. -/
def those (k : ByteArray) (l : List KV) : List KV := l.filter fun x => decide (x.1 = k)
theorem those_cons (k : ByteArray) (x : KV) (l : List KV) : those k (x :: l) = if x.1 = k then x :: those k l else those k l := by
  unfold those
  by_cases h : x.1 = k
  · rw [if_pos h, List.filter_cons_of_pos (by simpa using h)]
  · rw [if_neg h, List.filter_cons_of_neg (by simpa using h)]
theorem those_append (k : ByteArray) (a b : List KV) : those k (a ++ b) = those k a ++ those k b := by simp [those]
theorem mem_those {k : ByteArray} {x : KV} {l : List KV} : x ∈ those k l ↔ x ∈ l ∧ x.1 = k := by simp [those]
theorem those_nil_of {k : ByteArray} {l : List KV} (h : ∀ x ∈ l, x.1 ≠ k) : those k l = [] := by
  unfold those
  rw [List.filter_eq_nil_iff]
  intro x hx
  simpa using h x hx

/-- Rising lists that have the same of each key are the same. -/
theorem rising_unique : ∀ (a b : List KV), Rising a → Rising b → (∀ k, those k a = those k b) → a = b
  | [], [], _, _, _ => rfl
  | [], y :: b, _, _, h => by
    have := h y.1
    rw [those_cons, if_pos rfl] at this
    cases this
  | x :: a, [], _, _, h => by
    have := h x.1
    rw [those_cons, if_pos rfl] at this
    cases this
  | x :: a, y :: b, ha, hb, h => by
    have ha' := List.pairwise_cons.1 ha
    have hb' := List.pairwise_cons.1 hb
    have hx := h x.1
    have hy := h y.1
    have hk : x.1 = y.1 := by
      have m1 : x ∈ those x.1 (y :: b) := by rw [← hx]; exact mem_those.2 ⟨List.mem_cons_self, rfl⟩
      have m2 : y ∈ those y.1 (x :: a) := by rw [hy]; exact mem_those.2 ⟨List.mem_cons_self, rfl⟩
      have l1 : kLt x.1 y.1 = false := by
        rcases List.mem_cons.1 (mem_those.1 m1).1 with e | e
        · rw [e]; exact kLt_irrefl _
        · exact hb'.1 x e
      have l2 : kLt y.1 x.1 = false := by
        rcases List.mem_cons.1 (mem_those.1 m2).1 with e | e
        · rw [e]; exact kLt_irrefl _
        · exact ha'.1 y e
      exact kLt_total l1 l2
    rw [those_cons, if_pos rfl, those_cons, if_pos hk.symm] at hx
    have hxy := (List.cons.inj hx).1
    subst hxy
    rw [rising_unique a b ha'.2 hb'.2 (fun k => ?_)]
    have := h k
    rw [those_cons, those_cons] at this
    by_cases e : x.1 = k
    · rw [if_pos e, if_pos e] at this
      exact (List.cons.inj this).2
    · rw [if_neg e, if_neg e] at this
      exact this

/-! ### A stable sort -/
def ins (x : KV) : List KV → List KV
  | [] => [x]
  | y :: l => if kLt x.1 y.1 = true then x :: y :: l else y :: ins x l
def srt (l : List KV) : List KV := l.foldl (fun acc x => ins x acc) []
theorem mem_ins {x z : KV} : ∀ {l : List KV}, z ∈ ins x l ↔ z = x ∨ z ∈ l
  | [] => by simp [ins]
  | y :: l => by
    unfold ins
    split
    · simp
    · rw [List.mem_cons, mem_ins, List.mem_cons]
      constructor
      · rintro (h | h | h)
        · exact .inr (.inl h)
        · exact .inl h
        · exact .inr (.inr h)
      · rintro (h | h | h)
        · exact .inr (.inl h)
        · exact .inl h
        · exact .inr (.inr h)
theorem rising_ins (x : KV) : ∀ {l : List KV}, Rising l → Rising (ins x l)
  | [], _ => List.pairwise_singleton _ _
  | y :: l, h => by
    have h' := List.pairwise_cons.1 h
    unfold ins
    split
    · rename_i hlt
      refine List.pairwise_cons.2 ⟨fun z hz => ?_, h⟩
      rcases List.mem_cons.1 hz with rfl | hz
      · exact kLt_asymm hlt
      · exact kLe_trans (kLt_asymm hlt) (h'.1 z hz)
    · rename_i hlt
      refine List.pairwise_cons.2 ⟨fun z hz => ?_, rising_ins x h'.2⟩
      rcases mem_ins.1 hz with rfl | hz
      · simpa using hlt
      · exact h'.1 z hz
theorem those_ins (k : ByteArray) (x : KV) : ∀ {l : List KV}, Rising l → those k (ins x l) = those k l ++ those k [x]
  | [], _ => by simp [ins, those]
  | y :: l, h => by
    have h' := List.pairwise_cons.1 h
    unfold ins
    split
    · rename_i hlt
      rw [those_cons k x]
      by_cases e : x.1 = k
      · have hn : those k (y :: l) = [] := those_nil_of (fun z hz ez => by
          have : kLt x.1 z.1 = true := by
            rcases List.mem_cons.1 hz with rfl | hz
            · exact hlt
            · cases e2 : kLt x.1 z.1 with
              | true => rfl
              | false =>
                have := kLe_trans (h'.1 z hz) e2
                rw [this] at hlt
                cases hlt
          rw [ez, e, kLt_irrefl] at this
          cases this)
        rw [if_pos e, hn, those_cons, if_pos e]
        rfl
      · rw [if_neg e, those_cons k x, if_neg e]
        simp [those]
    · rw [those_cons, those_ins k x h'.2, those_cons k y l]
      by_cases e : y.1 = k
      · rw [if_pos e, if_pos e]; rfl
      · rw [if_neg e, if_neg e]
theorem srt_acc : ∀ (l acc : List KV), Rising acc → Rising (l.foldl (fun acc x => ins x acc) acc) ∧ ∀ k, those k (l.foldl (fun acc x => ins x acc) acc) = those k acc ++ those k l
  | [], acc, h => ⟨h, fun k => by simp [those]⟩
  | x :: l, acc, h => by
    obtain ⟨h1, h2⟩ := srt_acc l (ins x acc) (rising_ins x h)
    refine ⟨h1, fun k => ?_⟩
    rw [List.foldl_cons, h2 k, those_ins k x h, List.append_assoc]
    congr 1
    rw [← those_append]
    rfl
theorem rising_srt (l : List KV) : Rising (srt l) := (srt_acc l [] List.Pairwise.nil).1
theorem those_srt (k : ByteArray) (l : List KV) : those k (srt l) = those k l := (srt_acc l [] List.Pairwise.nil).2 k
/-- What is rising, and has of each key what l has, is l in order. -/
theorem srt_eq {l a : List KV} (h : Rising a) (hk : ∀ k, those k a = those k l) : a = srt l := rising_unique _ _ h (rising_srt l) (fun k => by rw [hk, those_srt])
theorem srt_self {l : List KV} (h : Rising l) : srt l = l := (srt_eq h fun _ => rfl).symm
theorem srt_srt (l : List KV) : srt (srt l) = srt l := srt_self (rising_srt l)
theorem srt_parts (a b : List KV) : srt (srt a ++ srt b) = srt (a ++ b) :=
  srt_eq (rising_srt _) fun k => by rw [those_srt, those_append, those_append, those_srt, those_srt]
theorem srt_rising_iff (l : List KV) : srt l = l ↔ Rising l := ⟨fun h => h ▸ rising_srt l, srt_self⟩
theorem length_ins (x : KV) : ∀ l : List KV, (ins x l).length = l.length + 1
  | [] => rfl
  | y :: l => by
    unfold ins
    split
    · rfl
    · simp [length_ins x l]
theorem length_srt (l : List KV) : (srt l).length = l.length := by
  have : ∀ (l acc : List KV), (l.foldl (fun acc x => ins x acc) acc).length = acc.length + l.length := by
    intro l
    induction l with
    | nil => intro acc; simp
    | cons x l ih => intro acc; rw [List.foldl_cons, ih, length_ins, List.length_cons]; omega
  have h := this l []
  rw [List.length_nil, Nat.zero_add] at h
  exact h
theorem mem_srt {x : KV} {l : List KV} : x ∈ srt l ↔ x ∈ l := by
  have h : ∀ m : List KV, x ∈ m ↔ x ∈ those x.1 m := fun m => by rw [mem_those]; simp
  rw [h (srt l), h l, those_srt]

/-! ### Keys, each once, rising -/
def RisingK (l : List ByteArray) : Prop := l.Pairwise fun a b => kLt a b = true
def insK (k : ByteArray) : List ByteArray → List ByteArray
  | [] => [k]
  | y :: l => if kLt y k = true then y :: insK k l else if y = k then y :: l else k :: y :: l
def keysOf (l : List KV) : List ByteArray := l.foldl (fun acc x => insK x.1 acc) []
theorem mem_insK {k z : ByteArray} : ∀ {l : List ByteArray}, z ∈ insK k l ↔ z = k ∨ z ∈ l
  | [] => by simp [insK]
  | y :: l => by
    unfold insK
    split
    · rw [List.mem_cons, mem_insK, List.mem_cons]
      constructor
      · rintro (h | h | h)
        · exact .inr (.inl h)
        · exact .inl h
        · exact .inr (.inr h)
      · rintro (h | h | h)
        · exact .inr (.inl h)
        · exact .inl h
        · exact .inr (.inr h)
    · split
      · rename_i e
        subst e
        simp
      · simp
theorem rising_insK (k : ByteArray) : ∀ {l : List ByteArray}, RisingK l → RisingK (insK k l)
  | [], _ => List.pairwise_singleton _ _
  | y :: l, h => by
    have h' := List.pairwise_cons.1 h
    unfold insK
    split
    · rename_i hlt
      refine List.pairwise_cons.2 ⟨fun z hz => ?_, rising_insK k h'.2⟩
      rcases mem_insK.1 hz with rfl | hz
      · exact hlt
      · exact h'.1 z hz
    · rename_i hlt
      split
      · exact h
      · rename_i hne
        have hk : kLt k y = true := kLt_of_le_ne (by simpa using hlt) (fun e => hne e.symm)
        refine List.pairwise_cons.2 ⟨fun z hz => ?_, h⟩
        rcases List.mem_cons.1 hz with rfl | hz
        · exact hk
        · exact kLt_trans hk (h'.1 z hz)
theorem keys_acc : ∀ (l : List KV) (acc : List ByteArray), RisingK acc → RisingK (l.foldl (fun acc x => insK x.1 acc) acc) ∧ ∀ k, k ∈ l.foldl (fun acc x => insK x.1 acc) acc ↔ k ∈ acc ∨ ∃ x ∈ l, x.1 = k
  | [], acc, h => ⟨h, fun k => by simp⟩
  | x :: l, acc, h => by
    obtain ⟨h1, h2⟩ := keys_acc l (insK x.1 acc) (rising_insK x.1 h)
    refine ⟨h1, fun k => ?_⟩
    rw [List.foldl_cons, h2 k, mem_insK]
    constructor
    · rintro ((h | h) | ⟨y, hy, e⟩)
      · exact .inr ⟨x, List.mem_cons_self, h.symm⟩
      · exact .inl h
      · exact .inr ⟨y, List.mem_cons_of_mem _ hy, e⟩
    · rintro (h | ⟨y, hy, e⟩)
      · exact .inl (.inr h)
      · rcases List.mem_cons.1 hy with rfl | hy
        · exact .inl (.inl e.symm)
        · exact .inr ⟨y, hy, e⟩
theorem rising_keys (l : List KV) : RisingK (keysOf l) := (keys_acc l [] List.Pairwise.nil).1
theorem mem_keys {l : List KV} {k : ByteArray} : k ∈ keysOf l ↔ ∃ x ∈ l, x.1 = k := by
  rw [show keysOf l = l.foldl (fun acc x => insK x.1 acc) [] from rfl, (keys_acc l [] List.Pairwise.nil).2 k]
  simp
theorem risingK_unique : ∀ (a b : List ByteArray), RisingK a → RisingK b → (∀ k, k ∈ a ↔ k ∈ b) → a = b
  | [], [], _, _, _ => rfl
  | [], y :: b, _, _, h => by have := (h y).2 List.mem_cons_self; cases this
  | x :: a, [], _, _, h => by have := (h x).1 List.mem_cons_self; cases this
  | x :: a, y :: b, ha, hb, h => by
    have ha' := List.pairwise_cons.1 ha
    have hb' := List.pairwise_cons.1 hb
    have e : x = y := by
      rcases List.mem_cons.1 ((h x).1 List.mem_cons_self) with e | e
      · exact e
      · rcases List.mem_cons.1 ((h y).2 List.mem_cons_self) with e2 | e2
        · exact e2.symm
        · have := kLt_trans (hb'.1 x e) (ha'.1 y e2)
          rw [kLt_irrefl] at this
          cases this
    subst e
    rw [risingK_unique a b ha'.2 hb'.2 fun k => ?_]
    constructor
    · intro hk
      rcases List.mem_cons.1 ((h k).1 (List.mem_cons_of_mem _ hk)) with e | e
      · subst e
        have := ha'.1 k hk
        rw [kLt_irrefl] at this
        cases this
      · exact e
    · intro hk
      rcases List.mem_cons.1 ((h k).2 (List.mem_cons_of_mem _ hk)) with e | e
      · subst e
        have := hb'.1 k hk
        rw [kLt_irrefl] at this
        cases this
      · exact e
/-- What rises, and has just l's keys, is l's keys. -/
theorem keys_eq {l : List KV} {a : List ByteArray} (h : RisingK a) (hk : ∀ k, k ∈ a ↔ ∃ x ∈ l, x.1 = k) : a = keysOf l := risingK_unique _ _ h (rising_keys l) fun k => by rw [hk, mem_keys]

/-! ### The values of a key -/
def valsOf (k : ByteArray) (l : List KV) : List ByteArray := (those k l).map (·.2)
theorem valsOf_append (k : ByteArray) (a b : List KV) : valsOf k (a ++ b) = valsOf k a ++ valsOf k b := by simp [valsOf, those_append]
theorem valsOf_srt (k : ByteArray) (l : List KV) : valsOf k (srt l) = valsOf k l := by rw [valsOf, those_srt]; rfl
theorem those_vals (k : ByteArray) (l : List KV) : (valsOf k l).map (fun v => (k, v)) = those k l := by
  unfold valsOf
  rw [List.map_map]
  conv => rhs; rw [← List.map_id (those k l)]
  apply List.map_congr_left
  intro x hx
  have := (mem_those.1 hx).2
  subst this
  rfl
/-- In order: key by key, the values of each in their order. -/
def byKeys (ks : List ByteArray) (l : List KV) : List KV := ks.flatMap fun k => those k l
theorem rising_byKeys (l : List KV) : ∀ {ks : List ByteArray}, RisingK ks → Rising (byKeys ks l)
  | [], _ => List.Pairwise.nil
  | k :: ks, h => by
    have h' := List.pairwise_cons.1 h
    show Rising (those k l ++ byKeys ks l)
    refine List.pairwise_append.2 ⟨?_, rising_byKeys l h'.2, ?_⟩
    · refine List.Pairwise.imp_of_mem (R := fun _ _ => True) (fun {a b} ha hb _ => ?_) (List.pairwise_of_forall (fun _ _ => trivial))
      rw [(mem_those.1 ha).2, (mem_those.1 hb).2]
      exact kLt_irrefl _
    · intro x hx y hy
      obtain ⟨k2, hk2, hy2⟩ := List.mem_flatMap.1 hy
      rw [(mem_those.1 hx).2, (mem_those.1 hy2).2]
      exact kLt_asymm (h'.1 k2 hk2)
theorem those_those (k j : ByteArray) (l : List KV) : those k (those j l) = if j = k then those k l else [] := by
  by_cases e : j = k
  · subst e
    rw [if_pos rfl]
    simp [those, List.filter_filter]
  · rw [if_neg e]
    exact those_nil_of fun x hx => by rw [(mem_those.1 hx).2]; exact e
theorem those_byKeys (k : ByteArray) (l : List KV) : ∀ {ks : List ByteArray}, RisingK ks → (k ∈ ks → those k (byKeys ks l) = those k l) ∧ (k ∉ ks → those k (byKeys ks l) = [])
  | [], _ => ⟨fun h => absurd h (by simp), fun _ => rfl⟩
  | j :: ks, h => by
    have h' := List.pairwise_cons.1 h
    obtain ⟨i1, i2⟩ := those_byKeys k l h'.2
    have hs : those k (byKeys (j :: ks) l) = those k (those j l) ++ those k (byKeys ks l) := those_append k _ _
    rw [hs, those_those]
    by_cases e : j = k
    · subst e
      have hn : j ∉ ks := fun hm => by have := h'.1 j hm; rw [kLt_irrefl] at this; cases this
      refine ⟨fun _ => by rw [if_pos rfl, i2 hn, List.append_nil], fun hm => absurd List.mem_cons_self hm⟩
    · rw [if_neg e, List.nil_append]
      refine ⟨fun hm => ?_, fun hm => i2 fun h => hm (List.mem_cons_of_mem _ h)⟩
      rcases List.mem_cons.1 hm with e2 | e2
      · exact absurd e2.symm e
      · exact i1 e2
theorem byKeys_srt (l : List KV) : byKeys (keysOf l) l = srt l :=
  srt_eq (rising_byKeys l (rising_keys l)) fun k => by
    obtain ⟨i1, i2⟩ := those_byKeys k l (rising_keys l)
    by_cases h : k ∈ keysOf l
    · exact i1 h
    · rw [i2 h]
      exact (those_nil_of fun x hx e => h (mem_keys.2 ⟨x, hx, e⟩)).symm
end Go.Proofs.Ytejkboahjfcdcaa
