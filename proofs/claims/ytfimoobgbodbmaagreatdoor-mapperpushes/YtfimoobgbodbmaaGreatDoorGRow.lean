/- Laid together: SRow SKey. -/
import Derived.Test.YtfimoobgbodbmaaGreatDoorGKeys
import Derived.Test.YtfimoobgbodbmaaGreatDoorGTexts
import Derived.Test.YtfimoobgbodbmaaGreatDoorShelfC
import Derived.Lib.Bytealg
/-! A row of pairs that the call owns: its cells, two of them changed for each other. -/
namespace Go.Proofs.YtfimoobgbodbmaaGreatDoor
open Go.RowKit
set_option linter.unusedVariables false
set_option maxRecDepth 100000

/-- The call owns the block g, and n pairs lie in it: l. -/
def Row (base g n cap : Nat) (l : List KV) (w : World) : Prop := w.ownsRow base 105 2 (.slice (some ⟨g, 0, none⟩) n cap) n (fl encP l)
section
variable {base g n cap : Nat}
theorem Row.len {l : List KV} {w : World} (h : Row base g n cap l w) : l.length = n := by
  have := h.1
  rw [fl_length encP_len] at this
  omega
theorem Row.at {A B : List KV} {x : KV} {w : World} {i : Nat} (h : Row base g n cap (A ++ x :: B) w) (hi : A.length = i) : w.cell? ⟨g, i * 2, none⟩ = some (.string x.1) ∧ w.cell? ⟨g, i * 2 + 1, none⟩ = some (.string x.2) := by
  subst hi
  have hx : (A ++ x :: B)[A.length]? = some x := by simp
  have h0 := fl_at encP_len _ _ 0 x _ hx rfl
  have h1 := fl_at encP_len _ _ 1 x _ hx rfl
  have hn := h.len
  rw [List.length_append, List.length_cons] at hn
  rw [h.cellAt _ (by omega), h.cellAt _ (by omega)]
  exact ⟨h0, h1⟩
theorem Row.free {l : List KV} {w : World} (h : Row base g n cap l w) (j : Nat) : w.frozen? ⟨g, j, none⟩ = false := h.frozenAt j
theorem Row.below {l : List KV} {w w' : World} (h : Row base g n cap l w) (hb : Below w.heap.size w w') : Row base g n cap l w' := owns_below h hb
theorem Row.lt {l : List KV} {w : World} (h : Row base g n cap l w) : g < w.heap.size := owns_lt h rfl
theorem fl_set2 (A : List KV) (x y : KV) (B : List KV) : ((fl encP (A ++ x :: B)).set (A.length * 2) (.string y.1)).set (A.length * 2 + 1) (.string y.2) = fl encP (A ++ y :: B) := by
  have e : ∀ z : KV, fl encP (A ++ z :: B) = fl encP A ++ (Value.string z.1 :: Value.string z.2 :: fl encP B) := fun z => by rw [fl_append]; rfl
  rw [e, e]
  have hl := fl_length encP_len A
  rw [← hl, List.set_append_right _ _ (Nat.le_refl _), List.set_append_right _ _ (by omega)]
  simp
/-- One pair is laid anew. -/
theorem Row.put {A B : List KV} {x : KV} {w : World} {i : Nat} (y : KV) (h : Row base g n cap (A ++ x :: B) w) (hi : A.length = i) : Row base g n cap (A ++ y :: B) ((w.setCell ⟨g, i * 2, none⟩ (.string y.1)).setCell ⟨g, i * 2 + 1, none⟩ (.string y.2)) ∧ w.grownBy ((w.setCell ⟨g, i * 2, none⟩ (.string y.1)).setCell ⟨g, i * 2 + 1, none⟩ (.string y.2)) (some g) := by
  subst hi
  have s1 := World.ownsRow.stored h (A.length * 2) (.string y.1)
  have s2 := s1.1.stored (A.length * 2 + 1) (.string y.2)
  refine ⟨?_, grownBy_trans s1.2 s2.2⟩
  have := s2.1
  rw [fl_set2] at this
  exact this
theorem Row.swap {A B C : List KV} {x y : KV} {w : World} {i j : Nat} (h : Row base g n cap (A ++ x :: (B ++ y :: C)) w) (hi : A.length = i) (hj : A.length + 1 + B.length = j) :
    Row base g n cap (A ++ y :: (B ++ x :: C)) ((((w.setCell ⟨g, i * 2, none⟩ (.string y.1)).setCell ⟨g, i * 2 + 1, none⟩ (.string y.2)).setCell ⟨g, j * 2, none⟩ (.string x.1)).setCell ⟨g, j * 2 + 1, none⟩ (.string x.2)) ∧
    w.grownBy ((((w.setCell ⟨g, i * 2, none⟩ (.string y.1)).setCell ⟨g, i * 2 + 1, none⟩ (.string y.2)).setCell ⟨g, j * 2, none⟩ (.string x.1)).setCell ⟨g, j * 2 + 1, none⟩ (.string x.2)) (some g) := by
  obtain ⟨h1, g1⟩ := h.put y hi
  have e : A ++ y :: (B ++ y :: C) = (A ++ y :: B) ++ y :: C := by simp
  rw [e] at h1
  obtain ⟨h2, g2⟩ := h1.put x (i := j) (by simp; omega)
  rw [show (A ++ y :: B) ++ x :: C = A ++ y :: (B ++ x :: C) by simp] at h2
  exact ⟨h2, grownBy_trans g1 g2⟩
/-- The same, the second one first. -/
theorem Row.paws {A B C : List KV} {x y : KV} {w : World} {i j : Nat} (h : Row base g n cap (A ++ x :: (B ++ y :: C)) w) (hi : A.length = i) (hj : A.length + 1 + B.length = j) :
    Row base g n cap (A ++ y :: (B ++ x :: C)) ((((w.setCell ⟨g, j * 2, none⟩ (.string x.1)).setCell ⟨g, j * 2 + 1, none⟩ (.string x.2)).setCell ⟨g, i * 2, none⟩ (.string y.1)).setCell ⟨g, i * 2 + 1, none⟩ (.string y.2)) ∧
    w.grownBy ((((w.setCell ⟨g, j * 2, none⟩ (.string x.1)).setCell ⟨g, j * 2 + 1, none⟩ (.string x.2)).setCell ⟨g, i * 2, none⟩ (.string y.1)).setCell ⟨g, i * 2 + 1, none⟩ (.string y.2)) (some g) := by
  have e : A ++ x :: (B ++ y :: C) = (A ++ x :: B) ++ y :: C := by simp
  rw [e] at h
  obtain ⟨h1, g1⟩ := h.put x (i := j) (by simp; omega)
  rw [show (A ++ x :: B) ++ x :: C = A ++ x :: (B ++ x :: C) by simp] at h1
  obtain ⟨h2, g2⟩ := h1.put y hi
  exact ⟨h2, grownBy_trans g1 g2⟩
end
end Go.Proofs.YtfimoobgbodbmaaGreatDoor
/-! How the program holds two pairs against each other: byKey. -/
namespace Go.Proofs.YtfimoobgbodbmaaGreatDoor
open Go.RowKit
set_option linter.unusedVariables false
set_option maxRecDepth 100000

theorem cmp_range : ∀ a b : List UInt8, Lib.compareBytes a b = -1 ∨ Lib.compareBytes a b = 0 ∨ Lib.compareBytes a b = 1
  | [], [] => .inr (.inl rfl)
  | [], _ :: _ => .inl rfl
  | _ :: _, [] => .inr (.inr rfl)
  | a :: x, b :: y => by
    unfold Lib.compareBytes
    split
    · exact .inl rfl
    · split
      · exact .inr (.inr rfl)
      · exact cmp_range x y
theorem cmp_less : ∀ a b : List UInt8, decide (Lib.compareBytes a b < 0) = Op.bytesLess a b
  | [], [] => rfl
  | [], _ :: _ => rfl
  | _ :: _, [] => rfl
  | a :: x, b :: y => by
    unfold Lib.compareBytes Op.bytesLess
    by_cases h : a < b
    · rw [if_pos h]; simp [h]
    · rw [if_neg h]
      by_cases k : b < a
      · rw [if_pos k]
        have hne : a ≠ b := by rintro rfl; exact h k
        simp [h, hne]
      · rw [if_neg k, cmp_less x y]
        have : a = b := UInt8.le_antisymm (UInt8.not_lt.1 k) (UInt8.not_lt.1 h)
        subst this
        simp

abbrev keyFn : Value := .func (.func 139) #[] #[]
/-- What byKey answers: a number that is below 0 just where the first key is below the second one. -/
def KeyIs (x y : ByteArray) (w : World) (e : Ending) (w' : World) : Prop := ∃ c : Int, e = .returned (.int .i64 c) ∧ decide (c < 0) = kLt x y ∧ Below w.heap.size w w'
set_option maxHeartbeats 1000000 in
theorem byKey_calls (x y : KV) (w : World) : Calls Tryz.prog 139 #[prV x, prV y] w (KeyIs x.1 y.1 w) := by
  have hb : Below w.heap.size w ((w.alloc (Obj.cells #[Value.string x.fst, Value.string x.snd] 105)).alloc (Obj.cells #[Value.string y.fst, Value.string y.snd] 105)) := ((Below.refl _ w).alloc (Nat.le_refl _) _).alloc (by simp) _
  have HB := hid hb
  clear hb
  go_enter Tryz.func139, Tryz.ntmps139
  go_wp2_with fail
  refine (Any.strings_Compare lays106 _ _ _).mono ?_
  rintro e w1 ⟨rfl, rfl⟩
  obtain ⟨c, hc⟩ : ∃ c, Lib.compareBytes x.1.data.toList y.1.data.toList = c := ⟨_, rfl⟩
  have HC := hid (show decide (c < 0) = kLt x.1 y.1 by rw [← hc]; exact cmp_less _ _)
  rw [hc]
  clear hc
  go_wp2
  go_ret
  exact ⟨_, rfl, HC.out, HB.out⟩
end Go.Proofs.YtfimoobgbodbmaaGreatDoor
