/- Laid together: SMath SMerge KMath SRuns. -/
import Derived.WalkKit
import Derived.Lib.SlicesCompact
import Derived.Lib.OwnBridge
/-! Pairs in order, over lists: keys by bytes, a stable sort, what is told apart by it. No program in this text. -/
namespace Go.Proofs.YtobgobmfhgagbaaGreatDoor
set_option linter.unusedVariables false
set_option maxRecDepth 100000

/-! ### Bytes -/
theorem lessB_irrefl : ∀ x : List UInt8, Op.bytesLess x x = false
  | [] => rfl
  | a :: x => by simp [Op.bytesLess, lessB_irrefl x]
theorem lessB_trans : ∀ x y z : List UInt8, Op.bytesLess x y = true → Op.bytesLess y z = true → Op.bytesLess x z = true
  | _, [], _, h, _ => by cases ‹List UInt8› <;> simp [Op.bytesLess] at h
  | _, _ :: _, [], _, h => by simp [Op.bytesLess] at h
  | [], _ :: _, _ :: _, _, _ => rfl
  | a :: x, b :: y, c :: z, h, k => by
    simp only [Op.bytesLess, Bool.or_eq_true, Bool.and_eq_true, decide_eq_true_eq, beq_iff_eq] at h k ⊢
    rcases h with h | ⟨rfl, h⟩
    · rcases k with k | ⟨rfl, k⟩
      · exact .inl (UInt8.lt_trans h k)
      · exact .inl h
    · rcases k with k | ⟨rfl, k⟩
      · exact .inl k
      · exact .inr ⟨rfl, lessB_trans x y z h k⟩
theorem lessB_total : ∀ x y : List UInt8, Op.bytesLess x y = false → Op.bytesLess y x = false → x = y
  | [], [], _, _ => rfl
  | [], _ :: _, h, _ => by simp [Op.bytesLess] at h
  | _ :: _, [], _, h => by simp [Op.bytesLess] at h
  | a :: x, b :: y, h, k => by
    simp only [Op.bytesLess, Bool.or_eq_false_iff, Bool.and_eq_false_iff, decide_eq_false_iff_not] at h k
    have hab : a = b := by
      have h1 := UInt8.not_lt.1 h.1
      have h2 := UInt8.not_lt.1 k.1
      exact UInt8.le_antisymm h2 h1
    subst hab
    have h2 : Op.bytesLess x y = false := by simpa using h.2
    have k2 : Op.bytesLess y x = false := by simpa using k.2
    rw [lessB_total x y h2 k2]

/-! ### Keys -/
def kLt (a b : ByteArray) : Bool := Op.bytesLess a.data.toList b.data.toList
theorem kLt_irrefl (a : ByteArray) : kLt a a = false := lessB_irrefl _
theorem kLt_trans {a b c : ByteArray} (h : kLt a b = true) (k : kLt b c = true) : kLt a c = true := lessB_trans _ _ _ h k
theorem kLt_total {a b : ByteArray} (h : kLt a b = false) (k : kLt b a = false) : a = b := by
  have := lessB_total _ _ h k
  cases a; cases b
  simp only [ByteArray.mk.injEq]
  exact Array.toList_inj.1 this
theorem kLt_asymm {a b : ByteArray} (h : kLt a b = true) : kLt b a = false := by
  cases k : kLt b a with
  | false => rfl
  | true => have := kLt_trans h k; rw [kLt_irrefl] at this; cases this
/-- Not below, and not below, is not below. -/
theorem kLe_trans {a b c : ByteArray} (h : kLt b a = false) (k : kLt c b = false) : kLt c a = false := by
  cases e : kLt c a with
  | false => rfl
  | true =>
    cases hab : kLt a b with
    | true => have := kLt_trans e hab; rw [k] at this; cases this
    | false =>
      obtain rfl := kLt_total hab h
      rw [k] at e
      cases e
theorem kLt_of_le_ne {a b : ByteArray} (h : kLt b a = false) (hn : a ≠ b) : kLt a b = true := by
  cases e : kLt a b with
  | true => rfl
  | false => exact absurd (kLt_total e h) hn

abbrev KV := ByteArray × ByteArray
/-- No key is below the one ahead. -/
def Rising (l : List KV) : Prop := l.Pairwise fun x y => kLt y.1 x.1 = false
/-- Those of a key, in their order. -/
def those (k : ByteArray) (l : List KV) : List KV := l.filter fun x => decide (x.1 = k)
theorem those_cons (k : ByteArray) (x : KV) (l : List KV) : those k (x :: l) = if x.1 = k then x :: those k l else those k l := by
  unfold those
  by_cases h : x.1 = k
  · rw [if_pos h, List.filter_cons_of_pos (by simpa using h)]
  · rw [if_neg h, List.filter_cons_of_neg (by simpa using h)]
theorem those_append (k : ByteArray) (a b : List KV) : those k (a ++ b) = those k a ++ those k b := by simp [those]
theorem mem_those {k : ByteArray} {x : KV} {l : List KV} : x ∈ those k l ↔ x ∈ l ∧ x.1 = k := by simp [those]
theorem those_nil_of {k : ByteArray} {l : List KV} (h : ∀ x ∈ l, x.1 ≠ k) : those k l = [] := by
  unfold those
  rw [List.filter_eq_nil_iff]
  intro x hx
  simpa using h x hx

/-- Rising lists that have the same of each key are the same. -/
theorem rising_unique : ∀ (a b : List KV), Rising a → Rising b → (∀ k, those k a = those k b) → a = b
  | [], [], _, _, _ => rfl
  | [], y :: b, _, _, h => by
    have := h y.1
    rw [those_cons, if_pos rfl] at this
    cases this
  | x :: a, [], _, _, h => by
    have := h x.1
    rw [those_cons, if_pos rfl] at this
    cases this
  | x :: a, y :: b, ha, hb, h => by
    have ha' := List.pairwise_cons.1 ha
    have hb' := List.pairwise_cons.1 hb
    have hx := h x.1
    have hy := h y.1
    have hk : x.1 = y.1 := by
      have m1 : x ∈ those x.1 (y :: b) := by rw [← hx]; exact mem_those.2 ⟨List.mem_cons_self, rfl⟩
      have m2 : y ∈ those y.1 (x :: a) := by rw [hy]; exact mem_those.2 ⟨List.mem_cons_self, rfl⟩
      have l1 : kLt x.1 y.1 = false := by
        rcases List.mem_cons.1 (mem_those.1 m1).1 with e | e
        · rw [e]; exact kLt_irrefl _
        · exact hb'.1 x e
      have l2 : kLt y.1 x.1 = false := by
        rcases List.mem_cons.1 (mem_those.1 m2).1 with e | e
        · rw [e]; exact kLt_irrefl _
        · exact ha'.1 y e
      exact kLt_total l1 l2
    rw [those_cons, if_pos rfl, those_cons, if_pos hk.symm] at hx
    have hxy := (List.cons.inj hx).1
    subst hxy
    rw [rising_unique a b ha'.2 hb'.2 (fun k => ?_)]
    have := h k
    rw [those_cons, those_cons] at this
    by_cases e : x.1 = k
    · rw [if_pos e, if_pos e] at this
      exact (List.cons.inj this).2
    · rw [if_neg e, if_neg e] at this
      exact this

/-! ### A stable sort -/
def ins (x : KV) : List KV → List KV
  | [] => [x]
  | y :: l => if kLt x.1 y.1 = true then x :: y :: l else y :: ins x l
def srt (l : List KV) : List KV := l.foldl (fun acc x => ins x acc) []
theorem mem_ins {x z : KV} : ∀ {l : List KV}, z ∈ ins x l ↔ z = x ∨ z ∈ l
  | [] => by simp [ins]
  | y :: l => by
    unfold ins
    split
    · simp
    · rw [List.mem_cons, mem_ins, List.mem_cons]
      constructor
      · rintro (h | h | h)
        · exact .inr (.inl h)
        · exact .inl h
        · exact .inr (.inr h)
      · rintro (h | h | h)
        · exact .inr (.inl h)
        · exact .inl h
        · exact .inr (.inr h)
theorem rising_ins (x : KV) : ∀ {l : List KV}, Rising l → Rising (ins x l)
  | [], _ => List.pairwise_singleton _ _
  | y :: l, h => by
    have h' := List.pairwise_cons.1 h
    unfold ins
    split
    · rename_i hlt
      refine List.pairwise_cons.2 ⟨fun z hz => ?_, h⟩
      rcases List.mem_cons.1 hz with rfl | hz
      · exact kLt_asymm hlt
      · exact kLe_trans (kLt_asymm hlt) (h'.1 z hz)
    · rename_i hlt
      refine List.pairwise_cons.2 ⟨fun z hz => ?_, rising_ins x h'.2⟩
      rcases mem_ins.1 hz with rfl | hz
      · simpa using hlt
      · exact h'.1 z hz
theorem those_ins (k : ByteArray) (x : KV) : ∀ {l : List KV}, Rising l → those k (ins x l) = those k l ++ those k [x]
  | [], _ => by simp [ins, those]
  | y :: l, h => by
    have h' := List.pairwise_cons.1 h
    unfold ins
    split
    · rename_i hlt
      rw [those_cons k x]
      by_cases e : x.1 = k
      · have hn : those k (y :: l) = [] := those_nil_of (fun z hz ez => by
          have : kLt x.1 z.1 = true := by
            rcases List.mem_cons.1 hz with rfl | hz
            · exact hlt
            · cases e2 : kLt x.1 z.1 with
              | true => rfl
              | false =>
                have := kLe_trans (h'.1 z hz) e2
                rw [this] at hlt
                cases hlt
          rw [ez, e, kLt_irrefl] at this
          cases this)
        rw [if_pos e, hn, those_cons, if_pos e]
        rfl
      · rw [if_neg e, those_cons k x, if_neg e]
        simp [those]
    · rw [those_cons, those_ins k x h'.2, those_cons k y l]
      by_cases e : y.1 = k
      · rw [if_pos e, if_pos e]; rfl
      · rw [if_neg e, if_neg e]
theorem srt_acc : ∀ (l acc : List KV), Rising acc → Rising (l.foldl (fun acc x => ins x acc) acc) ∧ ∀ k, those k (l.foldl (fun acc x => ins x acc) acc) = those k acc ++ those k l
  | [], acc, h => ⟨h, fun k => by simp [those]⟩
  | x :: l, acc, h => by
    obtain ⟨h1, h2⟩ := srt_acc l (ins x acc) (rising_ins x h)
    refine ⟨h1, fun k => ?_⟩
    rw [List.foldl_cons, h2 k, those_ins k x h, List.append_assoc]
    congr 1
    rw [← those_append]
    rfl
theorem rising_srt (l : List KV) : Rising (srt l) := (srt_acc l [] List.Pairwise.nil).1
theorem those_srt (k : ByteArray) (l : List KV) : those k (srt l) = those k l := (srt_acc l [] List.Pairwise.nil).2 k
/-- What is rising, and has of each key what l has, is l in order. -/
theorem srt_eq {l a : List KV} (h : Rising a) (hk : ∀ k, those k a = those k l) : a = srt l := rising_unique _ _ h (rising_srt l) (fun k => by rw [hk, those_srt])
theorem srt_self {l : List KV} (h : Rising l) : srt l = l := (srt_eq h fun _ => rfl).symm
theorem srt_srt (l : List KV) : srt (srt l) = srt l := srt_self (rising_srt l)
theorem srt_parts (a b : List KV) : srt (srt a ++ srt b) = srt (a ++ b) :=
  srt_eq (rising_srt _) fun k => by rw [those_srt, those_append, those_append, those_srt, those_srt]
theorem srt_rising_iff (l : List KV) : srt l = l ↔ Rising l := ⟨fun h => h ▸ rising_srt l, srt_self⟩
theorem length_ins (x : KV) : ∀ l : List KV, (ins x l).length = l.length + 1
  | [] => rfl
  | y :: l => by
    unfold ins
    split
    · rfl
    · simp [length_ins x l]
theorem length_srt (l : List KV) : (srt l).length = l.length := by
  have : ∀ (l acc : List KV), (l.foldl (fun acc x => ins x acc) acc).length = acc.length + l.length := by
    intro l
    induction l with
    | nil => intro acc; simp
    | cons x l ih => intro acc; rw [List.foldl_cons, ih, length_ins, List.length_cons]; omega
  have h := this l []
  rw [List.length_nil, Nat.zero_add] at h
  exact h
theorem mem_srt {x : KV} {l : List KV} : x ∈ srt l ↔ x ∈ l := by
  have h : ∀ m : List KV, x ∈ m ↔ x ∈ those x.1 m := fun m => by rw [mem_those]; simp
  rw [h (srt l), h l, those_srt]

/-! ### Keys, each once, rising -/
def RisingK (l : List ByteArray) : Prop := l.Pairwise fun a b => kLt a b = true
def insK (k : ByteArray) : List ByteArray → List ByteArray
  | [] => [k]
  | y :: l => if kLt y k = true then y :: insK k l else if y = k then y :: l else k :: y :: l
def keysOf (l : List KV) : List ByteArray := l.foldl (fun acc x => insK x.1 acc) []
theorem mem_insK {k z : ByteArray} : ∀ {l : List ByteArray}, z ∈ insK k l ↔ z = k ∨ z ∈ l
  | [] => by simp [insK]
  | y :: l => by
    unfold insK
    split
    · rw [List.mem_cons, mem_insK, List.mem_cons]
      constructor
      · rintro (h | h | h)
        · exact .inr (.inl h)
        · exact .inl h
        · exact .inr (.inr h)
      · rintro (h | h | h)
        · exact .inr (.inl h)
        · exact .inl h
        · exact .inr (.inr h)
    · split
      · rename_i e
        subst e
        simp
      · simp
theorem rising_insK (k : ByteArray) : ∀ {l : List ByteArray}, RisingK l → RisingK (insK k l)
  | [], _ => List.pairwise_singleton _ _
  | y :: l, h => by
    have h' := List.pairwise_cons.1 h
    unfold insK
    split
    · rename_i hlt
      refine List.pairwise_cons.2 ⟨fun z hz => ?_, rising_insK k h'.2⟩
      rcases mem_insK.1 hz with rfl | hz
      · exact hlt
      · exact h'.1 z hz
    · rename_i hlt
      split
      · exact h
      · rename_i hne
        have hk : kLt k y = true := kLt_of_le_ne (by simpa using hlt) (fun e => hne e.symm)
        refine List.pairwise_cons.2 ⟨fun z hz => ?_, h⟩
        rcases List.mem_cons.1 hz with rfl | hz
        · exact hk
        · exact kLt_trans hk (h'.1 z hz)
theorem keys_acc : ∀ (l : List KV) (acc : List ByteArray), RisingK acc → RisingK (l.foldl (fun acc x => insK x.1 acc) acc) ∧ ∀ k, k ∈ l.foldl (fun acc x => insK x.1 acc) acc ↔ k ∈ acc ∨ ∃ x ∈ l, x.1 = k
  | [], acc, h => ⟨h, fun k => by simp⟩
  | x :: l, acc, h => by
    obtain ⟨h1, h2⟩ := keys_acc l (insK x.1 acc) (rising_insK x.1 h)
    refine ⟨h1, fun k => ?_⟩
    rw [List.foldl_cons, h2 k, mem_insK]
    constructor
    · rintro ((h | h) | ⟨y, hy, e⟩)
      · exact .inr ⟨x, List.mem_cons_self, h.symm⟩
      · exact .inl h
      · exact .inr ⟨y, List.mem_cons_of_mem _ hy, e⟩
    · rintro (h | ⟨y, hy, e⟩)
      · exact .inl (.inr h)
      · rcases List.mem_cons.1 hy with rfl | hy
        · exact .inl (.inl e.symm)
        · exact .inr ⟨y, hy, e⟩
theorem rising_keys (l : List KV) : RisingK (keysOf l) := (keys_acc l [] List.Pairwise.nil).1
theorem mem_keys {l : List KV} {k : ByteArray} : k ∈ keysOf l ↔ ∃ x ∈ l, x.1 = k := by
  rw [show keysOf l = l.foldl (fun acc x => insK x.1 acc) [] from rfl, (keys_acc l [] List.Pairwise.nil).2 k]
  simp
theorem risingK_unique : ∀ (a b : List ByteArray), RisingK a → RisingK b → (∀ k, k ∈ a ↔ k ∈ b) → a = b
  | [], [], _, _, _ => rfl
  | [], y :: b, _, _, h => by have := (h y).2 List.mem_cons_self; cases this
  | x :: a, [], _, _, h => by have := (h x).1 List.mem_cons_self; cases this
  | x :: a, y :: b, ha, hb, h => by
    have ha' := List.pairwise_cons.1 ha
    have hb' := List.pairwise_cons.1 hb
    have e : x = y := by
      rcases List.mem_cons.1 ((h x).1 List.mem_cons_self) with e | e
      · exact e
      · rcases List.mem_cons.1 ((h y).2 List.mem_cons_self) with e2 | e2
        · exact e2.symm
        · have := kLt_trans (hb'.1 x e) (ha'.1 y e2)
          rw [kLt_irrefl] at this
          cases this
    subst e
    rw [risingK_unique a b ha'.2 hb'.2 fun k => ?_]
    constructor
    · intro hk
      rcases List.mem_cons.1 ((h k).1 (List.mem_cons_of_mem _ hk)) with e | e
      · subst e
        have := ha'.1 k hk
        rw [kLt_irrefl] at this
        cases this
      · exact e
    · intro hk
      rcases List.mem_cons.1 ((h k).2 (List.mem_cons_of_mem _ hk)) with e | e
      · subst e
        have := hb'.1 k hk
        rw [kLt_irrefl] at this
        cases this
      · exact e
/-- What rises, and has just l's keys, is l's keys. -/
theorem keys_eq {l : List KV} {a : List ByteArray} (h : RisingK a) (hk : ∀ k, k ∈ a ↔ ∃ x ∈ l, x.1 = k) : a = keysOf l := risingK_unique _ _ h (rising_keys l) fun k => by rw [hk, mem_keys]

/-! ### The values of a key -/
def valsOf (k : ByteArray) (l : List KV) : List ByteArray := (those k l).map (·.2)
theorem valsOf_append (k : ByteArray) (a b : List KV) : valsOf k (a ++ b) = valsOf k a ++ valsOf k b := by simp [valsOf, those_append]
theorem valsOf_srt (k : ByteArray) (l : List KV) : valsOf k (srt l) = valsOf k l := by rw [valsOf, those_srt]; rfl
theorem those_vals (k : ByteArray) (l : List KV) : (valsOf k l).map (fun v => (k, v)) = those k l := by
  unfold valsOf
  rw [List.map_map]
  conv => rhs; rw [← List.map_id (those k l)]
  apply List.map_congr_left
  intro x hx
  have := (mem_those.1 hx).2
  subst this
  rfl
/-- In order: key by key, the values of each in their order. -/
def byKeys (ks : List ByteArray) (l : List KV) : List KV := ks.flatMap fun k => those k l
theorem rising_byKeys (l : List KV) : ∀ {ks : List ByteArray}, RisingK ks → Rising (byKeys ks l)
  | [], _ => List.Pairwise.nil
  | k :: ks, h => by
    have h' := List.pairwise_cons.1 h
    show Rising (those k l ++ byKeys ks l)
    refine List.pairwise_append.2 ⟨?_, rising_byKeys l h'.2, ?_⟩
    · refine List.Pairwise.imp_of_mem (R := fun _ _ => True) (fun {a b} ha hb _ => ?_) (List.pairwise_of_forall (fun _ _ => trivial))
      rw [(mem_those.1 ha).2, (mem_those.1 hb).2]
      exact kLt_irrefl _
    · intro x hx y hy
      obtain ⟨k2, hk2, hy2⟩ := List.mem_flatMap.1 hy
      rw [(mem_those.1 hx).2, (mem_those.1 hy2).2]
      exact kLt_asymm (h'.1 k2 hk2)
theorem those_those (k j : ByteArray) (l : List KV) : those k (those j l) = if j = k then those k l else [] := by
  by_cases e : j = k
  · subst e
    rw [if_pos rfl]
    simp [those, List.filter_filter]
  · rw [if_neg e]
    exact those_nil_of fun x hx => by rw [(mem_those.1 hx).2]; exact e
theorem those_byKeys (k : ByteArray) (l : List KV) : ∀ {ks : List ByteArray}, RisingK ks → (k ∈ ks → those k (byKeys ks l) = those k l) ∧ (k ∉ ks → those k (byKeys ks l) = [])
  | [], _ => ⟨fun h => absurd h (by simp), fun _ => rfl⟩
  | j :: ks, h => by
    have h' := List.pairwise_cons.1 h
    obtain ⟨i1, i2⟩ := those_byKeys k l h'.2
    have hs : those k (byKeys (j :: ks) l) = those k (those j l) ++ those k (byKeys ks l) := those_append k _ _
    rw [hs, those_those]
    by_cases e : j = k
    · subst e
      have hn : j ∉ ks := fun hm => by have := h'.1 j hm; rw [kLt_irrefl] at this; cases this
      refine ⟨fun _ => by rw [if_pos rfl, i2 hn, List.append_nil], fun hm => absurd List.mem_cons_self hm⟩
    · rw [if_neg e, List.nil_append]
      refine ⟨fun hm => ?_, fun hm => i2 fun h => hm (List.mem_cons_of_mem _ h)⟩
      rcases List.mem_cons.1 hm with e2 | e2
      · exact absurd e2.symm e
      · exact i1 e2
theorem byKeys_srt (l : List KV) : byKeys (keysOf l) l = srt l :=
  srt_eq (rising_byKeys l (rising_keys l)) fun k => by
    obtain ⟨i1, i2⟩ := those_byKeys k l (rising_keys l)
    by_cases h : k ∈ keysOf l
    · exact i1 h
    · rw [i2 h]
      exact (those_nil_of fun x hx e => h (mem_keys.2 ⟨x, hx, e⟩)).symm
end Go.Proofs.YtobgobmfhgagbaaGreatDoor
/-! How the library's stable sort goes about it, over lists: insertion, and a merge that parts two runs. No program in this text. -/
namespace Go.Proofs.YtobgobmfhgagbaaGreatDoor
set_option linter.unusedVariables false
set_option maxRecDepth 100000

theorem srt_snoc (l : List KV) (x : KV) : srt (l ++ [x]) = ins x (srt l) := by simp [srt]
theorem ins_end (x : KV) : ∀ (l : List KV), (∀ y ∈ l, kLt x.1 y.1 = false) → ins x l = l ++ [x]
  | [], _ => rfl
  | y :: l, h => by
    unfold ins
    rw [if_neg (by rw [h y List.mem_cons_self]; simp), ins_end x l fun z hz => h z (List.mem_cons_of_mem _ hz)]
    rfl
/-- x stands where it belongs: what is ahead is not above it, what is behind is. -/
theorem ins_mid (x : KV) : ∀ (a b : List KV), (∀ y ∈ a, kLt x.1 y.1 = false) → (∀ y ∈ b, kLt x.1 y.1 = true) → ins x (a ++ b) = a ++ x :: b
  | [], [], _, _ => rfl
  | [], y :: b, _, hb => by
    show ins x (y :: b) = _
    unfold ins
    rw [if_pos (hb y List.mem_cons_self)]
    rfl
  | y :: a, b, ha, hb => by
    show ins x (y :: (a ++ b)) = _
    unfold ins
    rw [if_neg (by rw [ha y List.mem_cons_self]; simp), ins_mid x a b (fun z hz => ha z (List.mem_cons_of_mem _ hz)) hb]
    rfl
theorem rising_append {a b : List KV} : Rising (a ++ b) ↔ Rising a ∧ Rising b ∧ ∀ x ∈ a, ∀ y ∈ b, kLt y.1 x.1 = false := List.pairwise_append
/-- Of a rising list all are no more than its last. -/
theorem rising_last {a : List KV} {z : KV} (h : Rising (a ++ [z])) : ∀ y ∈ a ++ [z], kLt z.1 y.1 = false := by
  intro y hy
  rcases List.mem_append.1 hy with hy | hy
  · exact (rising_append.1 h).2.2 y hy z (by simp)
  · rw [List.mem_singleton.1 hy]; exact kLt_irrefl _
/-- Two runs, each parted: what comes of the lower parts stands ahead of what comes of the upper ones. -/
theorem merge_parts {u1 u2 v1 v2 : List KV} (hu : Rising (u1 ++ u2)) (hv : Rising (v1 ++ v2)) (h1 : ∀ x ∈ u1, ∀ y ∈ v2, kLt y.1 x.1 = false) (h2 : ∀ x ∈ u2, ∀ y ∈ v1, kLt y.1 x.1 = true) :
    srt (u1 ++ v1) ++ srt (u2 ++ v2) = srt (u1 ++ u2 ++ (v1 ++ v2)) := by
  obtain ⟨hu1, hu2, hu3⟩ := rising_append.1 hu
  obtain ⟨hv1, hv2, hv3⟩ := rising_append.1 hv
  refine srt_eq (rising_append.2 ⟨rising_srt _, rising_srt _, fun x hx y hy => ?_⟩) fun k => ?_
  · rw [mem_srt, List.mem_append] at hx hy
    rcases hx with hx | hx
    · rcases hy with hy | hy
      · exact hu3 x hx y hy
      · exact h1 x hx y hy
    · rcases hy with hy | hy
      · exact kLt_asymm (h2 y hy x hx)
      · exact hv3 x hx y hy
  · rw [those_append, those_srt, those_srt, those_append, those_append, those_append, those_append, those_append]
    by_cases e : those k u2 = []
    · rw [e]; simp
    · have hn : those k v1 = [] := by
        refine those_nil_of fun y hy ey => e (those_nil_of fun x hx ex => ?_)
        have := h2 x hx y hy
        rw [ex, ey, kLt_irrefl] at this
        cases this
      rw [hn]; simp
/-- Two runs that are rising, one behind the other, and already in order. -/
theorem merge_none {u v : List KV} (hu : Rising u) (hv : Rising v) (h : ∀ x ∈ u, ∀ y ∈ v, kLt y.1 x.1 = false) : srt (u ++ v) = u ++ v := srt_self (rising_append.2 ⟨hu, hv, h⟩)
/-- One element ahead of a run: it is put behind those that are below it. -/
theorem merge_one_left {x : KV} {v1 v2 : List KV} (hv : Rising (v1 ++ v2)) (h1 : ∀ y ∈ v1, kLt y.1 x.1 = true) (h2 : ∀ y ∈ v2, kLt y.1 x.1 = false) : srt (x :: (v1 ++ v2)) = v1 ++ x :: v2 := by
  have := merge_parts (u1 := []) (u2 := [x]) (v1 := v1) (v2 := v2) (List.pairwise_singleton _ _) hv (fun _ h => by cases h) (fun z hz y hy => by rw [List.mem_singleton.1 hz]; exact h1 y hy)
  have hv' := rising_append.1 hv
  rw [List.nil_append, srt_self hv'.1, merge_none (List.pairwise_singleton _ _) hv'.2.1 (fun z hz y hy => by rw [List.mem_singleton.1 hz]; exact h2 y hy)] at this
  simpa using this.symm
/-- One element behind a run: it is put ahead of those that are above it. -/
theorem merge_one_right {x : KV} {u1 u2 : List KV} (hu : Rising (u1 ++ u2)) (h1 : ∀ y ∈ u1, kLt x.1 y.1 = false) (h2 : ∀ y ∈ u2, kLt x.1 y.1 = true) : srt (u1 ++ u2 ++ [x]) = u1 ++ x :: u2 := by
  rw [srt_snoc, srt_self hu, ins_mid x u1 u2 h1 h2]
/-- Where two runs were parted is told by the elements beside it. -/
theorem low_of {u1 u2 v1 v2 : List KV} (hu : Rising (u1 ++ u2)) (hv : Rising (v1 ++ v2)) (h : u1 = [] ∨ v2 = [] ∨ ∃ a x y c, u1 = a ++ [x] ∧ v2 = y :: c ∧ kLt y.1 x.1 = false) : ∀ x ∈ u1, ∀ y ∈ v2, kLt y.1 x.1 = false := by
  rcases h with rfl | rfl | ⟨a, x, y, c, rfl, rfl, hxy⟩
  · intro x hx; cases hx
  · intro x hx y hy; cases hy
  · intro z hz t ht
    have e1 : kLt x.1 z.1 = false := rising_last (rising_append.1 hu).1 z hz
    have e2 : kLt t.1 y.1 = false := by
      rcases List.mem_cons.1 ht with rfl | ht
      · exact kLt_irrefl _
      · exact (List.pairwise_cons.1 (rising_append.1 hv).2.1).1 t ht
    exact kLe_trans (kLe_trans e1 hxy) e2
theorem kLt_le {a b c : ByteArray} (h : kLt a b = true) (k : kLt c b = false) : kLt a c = true := by
  cases e : kLt a c with
  | true => rfl
  | false => rw [kLe_trans k e] at h; cases h
theorem kLe_lt {a b c : ByteArray} (h : kLt b a = false) (k : kLt b c = true) : kLt a c = true := by
  cases e : kLt a c with
  | true => rfl
  | false => rw [kLe_trans e h] at k; cases k
theorem high_of {u1 u2 v1 v2 : List KV} (hu : Rising (u1 ++ u2)) (hv : Rising (v1 ++ v2)) (h : u2 = [] ∨ v1 = [] ∨ ∃ x a c y, u2 = x :: a ∧ v1 = c ++ [y] ∧ kLt y.1 x.1 = true) : ∀ x ∈ u2, ∀ y ∈ v1, kLt y.1 x.1 = true := by
  rcases h with rfl | rfl | ⟨x, a, c, y, rfl, rfl, hxy⟩
  · intro x hx; cases hx
  · intro x hx y hy; cases hy
  · intro z hz t ht
    have e1 : kLt y.1 t.1 = false := rising_last (rising_append.1 hv).1 t ht
    have e2 : kLt z.1 x.1 = false := by
      rcases List.mem_cons.1 hz with rfl | hz
      · exact kLt_irrefl _
      · exact (List.pairwise_cons.1 (rising_append.1 hu).2.1).1 z hz
    exact kLt_le (kLe_lt e1 hxy) e2
end Go.Proofs.YtobgobmfhgagbaaGreatDoor
/-! Keys as the library sorts them: lists of bytes. No program in this text. -/
namespace Go.Proofs.YtobgobmfhgagbaaGreatDoor
open Go.Lib
set_option linter.unusedVariables false
set_option maxRecDepth 100000

theorem lessB_lt : ∀ (x y : List UInt8), Op.bytesLess x y = decide (x < y)
  | [], [] => by simp [Op.bytesLess]
  | _ :: _, [] => by simp [Op.bytesLess]
  | [], _ :: _ => by simp [Op.bytesLess]
  | a :: x, b :: y => by
    rw [Op.bytesLess, lessB_lt x y]
    simp only [List.cons_lt_cons_iff]
    by_cases h1 : a < b <;> by_cases h2 : a = b <;> by_cases h3 : x < y <;> simp [h1, h2, h3]
theorem leB (x y : List UInt8) : decide (x ≤ y) = !Op.bytesLess y x := by
  rw [lessB_lt]
  have : x ≤ y ↔ ¬ y < x := Iff.rfl
  by_cases h : y < x
  · simp [this, h]
  · simp [this, h]
theorem leB_trans {x y z : List UInt8} (h : Op.bytesLess y x = false) (k : Op.bytesLess z y = false) : Op.bytesLess z x = false :=
  kLe_trans (a := ⟨x.toArray⟩) (b := ⟨y.toArray⟩) (c := ⟨z.toArray⟩) h k
theorem leB_ne {x y : List UInt8} (h : Op.bytesLess y x = false) (hn : y ≠ x) : Op.bytesLess x y = true := by
  cases e : Op.bytesLess x y with
  | true => rfl
  | false => exact absurd (lessB_total y x h e) hn
theorem lessB_asymm {x y : List UInt8} (h : Op.bytesLess x y = true) : Op.bytesLess y x = false :=
  kLt_asymm (a := ⟨x.toArray⟩) (b := ⟨y.toArray⟩) h
theorem sortB (zs : List (List UInt8)) : (zs.mergeSort fun x y => decide (x ≤ y)).Pairwise (fun x y => Op.bytesLess y x = false) := by
  have := List.pairwise_mergeSort (le := fun x y : List UInt8 => decide (x ≤ y)) (by
    intro a b c h k
    rw [leB] at h k ⊢
    simp only [Bool.not_eq_true'] at h k ⊢
    exact leB_trans h k) (by
    intro a b
    rw [leB, leB]
    cases h : Op.bytesLess b a with
    | false => rfl
    | true => rw [lessB_asymm h]; rfl) zs
  exact this.imp (fun h => by rw [leB] at h; simpa using h)
theorem getB {zs : List (List UInt8)} {j : Nat} (h : j < zs.length) : zs.toArray[j]! = zs[j] := by
  simp [getElem!_pos, h]
theorem sortedB_le {zs : List (List UInt8)} (h : zs.Pairwise (fun x y => Op.bytesLess y x = false)) {i j : Nat} (hij : i ≤ j) (hj : j < zs.length) : Op.bytesLess zs.toArray[j]! zs.toArray[i]! = false := by
  rw [getB hj, getB (by omega)]
  rcases Nat.lt_or_ge i j with h1 | h1
  · exact List.pairwise_iff_getElem.1 h i j (by omega) hj h1
  · obtain rfl : i = j := by omega
    exact lessB_irrefl _
theorem compactB_rising {zs : List (List UInt8)} (h : zs.Pairwise (fun x y => Op.bytesLess y x = false)) : (compact zs).Pairwise (fun x y => Op.bytesLess x y = true) := by
  unfold compact compactUpTo
  rw [List.pairwise_map, List.pairwise_filter]
  rw [List.pairwise_iff_getElem]
  intro i j hi hj hij hki hkj
  simp only [List.length_range] at hi hj
  simp only [List.getElem_range] at *
  have h1 := sortedB_le h (i := i) (j := j - 1) (by omega) (by omega)
  have h2 := sortedB_le h (i := j - 1) (j := j) (by omega) hj
  have h3 : zs.toArray[j]! ≠ zs.toArray[j - 1]! := by
    have : decide (j = 0 ∨ zs.toArray[j]! ≠ zs.toArray[j - 1]!) = true := hkj
    rcases of_decide_eq_true this with e | e
    · omega
    · exact e
  have h4 := leB_ne h2 h3
  cases e : Op.bytesLess zs.toArray[i]! zs.toArray[j]! with
  | true => rfl
  | false =>
    rw [leB_trans e h1] at h4
    cases h4
theorem compactB_mem {zs : List (List UInt8)} (x : List UInt8) : x ∈ compact zs ↔ x ∈ zs := by
  constructor
  · intro h
    unfold compact compactUpTo at h
    obtain ⟨j, hj, rfl⟩ := List.mem_map.1 h
    have hj := List.mem_range.1 (List.mem_filter.1 hj).1
    rw [getB hj]
    exact List.getElem_mem hj
  · intro h
    obtain ⟨j, hj, rfl⟩ := List.mem_iff_getElem.1 h
    have main : ∀ m, ∀ (hm : m < zs.length), zs[m] ∈ compact zs := by
      intro m
      induction m with
      | zero =>
        intro hm
        unfold compact compactUpTo
        exact List.mem_map.2 ⟨0, List.mem_filter.2 ⟨List.mem_range.2 hm, by simp [keeps]⟩, getB hm⟩
      | succ m ih =>
        intro hm
        by_cases he : zs.toArray[m + 1]! = zs.toArray[m]!
        · rw [getB hm, getB (by omega)] at he
          rw [he]
          exact ih (by omega)
        · unfold compact compactUpTo
          exact List.mem_map.2 ⟨m + 1, List.mem_filter.2 ⟨List.mem_range.2 hm, keeps_pos (by simpa using he)⟩, getB hm⟩
    exact main j hj
theorem compactB_length (zs : List (List UInt8)) : (compact zs).length ≤ zs.length := by
  unfold compact compactUpTo
  rw [List.length_map]
  exact Nat.le_trans (List.length_filter_le _ _) (by simp)

/-- Keys, sorted, each once: those of the pairs, rising. -/
theorem keys_sorted (l : List KV) : compact (((l.map (·.1)).map (·.data.toList)).mergeSort fun x y => decide (x ≤ y)) = (keysOf l).map (·.data.toList) := by
  have hk : ((compact (((l.map (·.1)).map (·.data.toList)).mergeSort fun x y => decide (x ≤ y))).map fun x => (⟨x.toArray⟩ : ByteArray)) = keysOf l := by
    refine keys_eq ?_ ?_
    · unfold RisingK
      rw [List.pairwise_map]
      exact compactB_rising (sortB _)
    · intro k
      rw [List.mem_map]
      constructor
      · rintro ⟨x, hx, rfl⟩
        rw [compactB_mem, (List.mergeSort_perm _ _).mem_iff, List.mem_map] at hx
        obtain ⟨b, hb, rfl⟩ := hx
        obtain ⟨p, hp, rfl⟩ := List.mem_map.1 hb
        exact ⟨p, hp, by cases p.1; rfl⟩
      · rintro ⟨p, hp, rfl⟩
        refine ⟨p.1.data.toList, ?_, by cases p.1; rfl⟩
        rw [compactB_mem, (List.mergeSort_perm _ _).mem_iff, List.mem_map]
        exact ⟨p.1, List.mem_map.2 ⟨p, hp, rfl⟩, rfl⟩
  rw [← hk]
  generalize compact (((l.map (·.1)).map (·.data.toList)).mergeSort fun x y => decide (x ≤ y)) = zs
  rw [List.map_map]
  conv => lhs; rw [← List.map_id zs]
  apply List.map_congr_left
  intro x _
  rfl
theorem length_keys (l : List KV) : (keysOf l).length ≤ l.length := by
  have h := compactB_length (((l.map (·.1)).map (·.data.toList)).mergeSort fun x y => decide (x ≤ y))
  rw [keys_sorted, List.length_mergeSort] at h
  simpa using h
end Go.Proofs.YtobgobmfhgagbaaGreatDoor
/-! Runs of s pairs, each in order. No program in this text. -/
namespace Go.Proofs.YtobgobmfhgagbaaGreatDoor
set_option linter.unusedVariables false
set_option maxRecDepth 100000

/-- l, each s pairs of it in order; k is how often it is gone on at most. -/
def runsN (s : Nat) : Nat → List KV → List KV
  | 0, l => srt l
  | k + 1, l => if 0 < s ∧ s < l.length then srt (l.take s) ++ runsN s k (l.drop s) else srt l
/-- l, each s pairs of it in order. -/
def runs (s : Nat) (l : List KV) : List KV := runsN s l.length l
theorem runsN_le {s : Nat} {l : List KV} (h : l.length ≤ s) : ∀ k, runsN s k l = srt l
  | 0 => rfl
  | k + 1 => by unfold runsN; rw [if_neg (by omega)]
theorem runsN_eq {s : Nat} : ∀ (k j : Nat) (l : List KV), l.length ≤ k → l.length ≤ j → runsN s k l = runsN s j l
  | 0, j, l, hk, _ => by rw [runsN_le (by omega), runsN_le (by omega)]
  | k + 1, 0, l, _, hj => by rw [runsN_le (by omega), runsN_le (by omega)]
  | k + 1, j + 1, l, hk, hj => by
    unfold runsN
    by_cases h : 0 < s ∧ s < l.length
    · rw [if_pos h, if_pos h, runsN_eq k j (l.drop s) (by rw [List.length_drop]; omega) (by rw [List.length_drop]; omega)]
    · rw [if_neg h, if_neg h]
theorem runs_le {s : Nat} {l : List KV} (h : l.length ≤ s) : runs s l = srt l := runsN_le h _
theorem runs_cons {s : Nat} (hs : 0 < s) {x y : List KV} (hx : x.length = s) : runs s (x ++ y) = srt x ++ runs s y := by
  by_cases hy : y.length = 0
  · obtain rfl := List.eq_nil_of_length_eq_zero hy
    rw [List.append_nil, runs_le (by omega), runs_le (by simp)]
    simp [srt]
  · have hl : (x ++ y).length = (x.length + y.length - 1) + 1 := by rw [List.length_append]; omega
    show runsN s (x ++ y).length (x ++ y) = _
    rw [hl]
    show (if 0 < s ∧ s < (x ++ y).length then _ else _) = _
    rw [if_pos (by rw [List.length_append]; omega), List.take_left' hx, List.drop_left' hx, runsN_eq _ y.length y (by omega) (Nat.le_refl _)]
    rfl
theorem length_runs {s : Nat} (hs : 0 < s) : ∀ (k : Nat) (l : List KV), l.length ≤ k → (runs s l).length = l.length
  | 0, l, h => by rw [runs_le (by omega), length_srt]
  | k + 1, l, h => by
    by_cases hl : l.length ≤ s
    · rw [runs_le hl, length_srt]
    · rw [← List.take_append_drop s l, runs_cons hs (by rw [List.length_take]; omega), List.length_append, length_srt, length_runs hs k _ (by rw [List.length_drop]; omega), List.length_append]
theorem split_at {l : List KV} {s : Nat} (h : s ≤ l.length) : ∃ x y, l = x ++ y ∧ x.length = s := ⟨l.take s, l.drop s, (List.take_append_drop _ _).symm, by rw [List.length_take]; omega⟩
end Go.Proofs.YtobgobmfhgagbaaGreatDoor
