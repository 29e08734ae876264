/- does of chapter 6's own answer, whatever the instruction. -/
import Derived.Test.YtpggfdnpbipckaaGreatDoorREmit2
import Derived.Test.YtpggfdnpbipckaaGreatDoorRStepM
import Derived.Test.YtpggfdnpbipckaaGreatDoorVDo
namespace Go.Proofs.YtpggfdnpbipckaaGreatDoor
open Go.RowKit Go.Lib
set_option linter.unusedVariables false
set_option maxRecDepth 100000

/-- What does answers, and leaves. -/
def Doing (w0 : World) (b : Nat) (key : ByteArray) (vv : Value) : Dn → Ending → World → Prop
  | .fail r, e, w' => ∃ vo, e = .returned (.tuple #[vo, .int .i64 r]) ∧ r ≠ 0 ∧ Below w0.heap.size w0 w'
  | .give out m, e, w' => Leaves w0 b key vv m out e w'
theorem Fails.doing {w0 : World} {b : Nat} {key : ByteArray} {vv : Value} {w : World} (hb : Below w0.heap.size w0 w) {r : Int} (hr : r ≠ 0) {e : Ending} {w' : World} (h : Fails w r e w') : Doing w0 b key vv (.fail r) e w' := by
  obtain ⟨vo, he, hb'⟩ := h
  exact ⟨vo, he, hr, below_then hb hb' hb.size⟩

theorem one_num {ks : List Int} {av : List Val} (hk : ks = [1]) (hl : av.length = ks.length) (hf : allFit ks av = true) : ∃ n, av = [.num n] := by
  subst hk
  match av, hl with
  | [a], _ =>
    rw [fit1] at hf
    obtain ⟨n, rfl⟩ := fits_num hf
    exact ⟨n, rfl⟩
theorem one_text {ks : List Int} {av : List Val} (hk : ks = [2]) (hl : av.length = ks.length) (hf : allFit ks av = true) : ∃ n, av = [.text n] := by
  subst hk
  match av, hl with
  | [a], _ =>
    rw [fit1] at hf
    obtain ⟨n, rfl⟩ := fits_text hf
    exact ⟨n, rfl⟩
theorem two_nums {ks : List Int} {av : List Val} (hk : ks = [1, 1]) (hl : av.length = ks.length) (hf : allFit ks av = true) : ∃ n k, av = [.num n, .num k] := by
  subst hk
  match av, hl with
  | [a, b], _ =>
    rw [fit2] at hf
    simp only [Bool.and_eq_true] at hf
    obtain ⟨n, rfl⟩ := fits_num hf.1
    obtain ⟨k, rfl⟩ := fits_num hf.2
    exact ⟨n, k, rfl⟩
theorem two_texts {ks : List Int} {av : List Val} (hk : ks = [2, 2]) (hl : av.length = ks.length) (hf : allFit ks av = true) : ∃ n k, av = [.text n, .text k] := by
  subst hk
  match av, hl with
  | [a, b], _ =>
    rw [fit2] at hf
    simp only [Bool.and_eq_true] at hf
    obtain ⟨n, rfl⟩ := fits_text hf.1
    obtain ⟨k, rfl⟩ := fits_text hf.2
    exact ⟨n, k, rfl⟩
theorem text_num {ks : List Int} {av : List Val} (hk : ks = [2, 1]) (hl : av.length = ks.length) (hf : allFit ks av = true) : ∃ n k, av = [.text n, .num k] := by
  subst hk
  match av, hl with
  | [a, b], _ =>
    rw [fit2] at hf
    simp only [Bool.and_eq_true] at hf
    obtain ⟨n, rfl⟩ := fits_text hf.1
    obtain ⟨k, rfl⟩ := fits_num hf.2
    exact ⟨n, k, rfl⟩
theorem text_num2 {ks : List Int} {av : List Val} (hk : ks = [2, 1, 1]) (hl : av.length = ks.length) (hf : allFit ks av = true) : ∃ n k j, av = [.text n, .num k, .num j] := by
  subst hk
  match av, hl with
  | [a, b, c], _ =>
    rw [fit3] at hf
    simp only [Bool.and_eq_true] at hf
    obtain ⟨n, rfl⟩ := fits_text hf.1
    obtain ⟨k, rfl⟩ := fits_num hf.2.1
    obtain ⟨j, rfl⟩ := fits_num hf.2.2
    exact ⟨n, k, j, rfl⟩
theorem len1 {ks : List Int} {av : List Val} {k : Int} (hk : ks = [k]) (hl : av.length = ks.length) : ∃ a, av = [a] := by
  subst hk
  match av, hl with
  | [a], _ => exact ⟨a, rfl⟩
theorem len2 {ks : List Int} {av : List Val} {k j : Int} (hk : ks = [k, j]) (hl : av.length = ks.length) : ∃ a b, av = [a, b] := by
  subst hk
  match av, hl with
  | [a, b], _ => exact ⟨a, b, rfl⟩

variable {w0 : World} {b : Nat} {key : ByteArray} {vv vs vt : Value} {m : St} {w : World} {vals : List ByteArray}
theorem small64 {s : ByteArray} (h : s.size ≤ 64) : s.size ≤ 9223372036854775807 := by omega
theorem does_all (h : Mac w0 b key vv vs vt m w) (ok : Ok vals m) (hvv : Txs w0 vv vals) (hfew : vals.length ≤ 100) (x : Inst) (n : Int) (hg : good x n = true) (h0 : ¬ x.1 = 0) (hj : ¬ x.1 = 19)
    (v : Value) (av : List Val) (hv : Vls w v av) (hl : av.length = (ksOf x.1.toNat).length) (hf : allFit (ksOf x.1.toNat) av = true) (hav : ∀ a ∈ av, a.ok) (hne : v.ownBlock ≠ some b) (hne2 : ∀ g, v.ownBlock = some g → vt.ownBlock ≠ some g) :
    Calls Tryz.prog 65 #[.pointer (some ⟨b, 0, none⟩), .agg #[.int .i64 x.1, .int .i64 x.2.1, .string x.2.2], v] w (Doing w0 b key vv (doesL key vals x av m)) := by
  have hb := good_op hg
  have hr := fun hx => good_reg hg hx
  obtain ⟨o, A, S⟩ := x
  simp only at hb hr h0 hj hl hf ⊢
  have hc : o = 1 ∨ o = 2 ∨ o = 3 ∨ o = 4 ∨ o = 5 ∨ o = 6 ∨ o = 7 ∨ o = 8 ∨ o = 9 ∨ o = 10 ∨ o = 11 ∨ o = 12 ∨ o = 13 ∨ o = 14 ∨ o = 15 ∨ o = 16 ∨ o = 17 ∨ o = 18 ∨ o = 20 ∨ o = 21 ∨ o = 22 ∨ o = 23 := by omega
  have gl : ∀ {out : List Val} {e : Ending} {w' : World}, Gives w out e w' → Doing w0 b key vv (.give out m) e w' := fun hg => hg.leaves h
  rcases hc with rfl | rfl | rfl | rfl | rfl | rfl | rfl | rfl | rfl | rfl | rfl | rfl | rfl | rfl | rfl | rfl | rfl | rfl | rfl | rfl | rfl | rfl
  · obtain rfl := List.eq_nil_of_length_eq_zero hl
    exact (does_int b A S v w hv).mono fun _ _ => gl
  · obtain rfl := List.eq_nil_of_length_eq_zero hl
    exact (does_bytes b A S v w hv).mono fun _ _ => gl
  · obtain ⟨a, rfl⟩ := len1 rfl hl
    exact (does_dup b A S v a w hv).mono fun _ _ => gl
  · exact (does_none4 b A S v w).mono fun _ _ => gl
  · obtain ⟨a, c, rfl⟩ := len2 rfl hl
    exact (does_swap b A S v a c w hv).mono fun _ _ => gl
  · exact (does_key h A S v).mono fun _ _ => gl
  · obtain ⟨ao, cap, rfl, h1, h2, h3, h4⟩ := hvv
    by_cases ht : m.taken < vals.length
    · obtain ⟨n0, off, rfl, hlt, hcell⟩ := h4 (by intro e; rw [e] at ht; simp at ht)
      have hx := hcell m.taken _ (List.getElem?_eq_getElem ht) 0 _ rfl
      have hx' : w.cell? ⟨n0, off + m.taken, none⟩ = some (.string vals[m.taken]) := (h.bel.cell (p := ⟨n0, off + m.taken, none⟩) hlt).trans (by simpa using hx)
      have e1 : doesL key vals (7, A, S) av m = .give [.text vals[m.taken], .num 1] { m with taken := m.taken + 1 } := by
        show (if m.taken < vals.length then _ else _) = _
        rw [if_pos ht, List.getD_eq_getElem?_getD, List.getElem?_eq_getElem ht]
        rfl
      rw [e1]
      exact does_next1 h hx' hlt ht (by omega) A S v
    · have e1 : doesL key vals (7, A, S) av m = .give [.num 0] m := by
        show (if m.taken < vals.length then _ else _) = _
        rw [if_neg ht]
      rw [e1]
      exact (does_next0 h (by omega) (by have := ok.tk; omega) A S v).mono fun _ _ => gl
  · obtain ⟨x, y, rfl⟩ := two_nums rfl hl hf
    exact (does_add b A S v x y w hv).mono fun _ _ => gl
  · obtain ⟨x, y, rfl⟩ := two_nums rfl hl hf
    exact (does_sub b A S v x y w hv).mono fun _ _ => gl
  · obtain ⟨x, y, rfl⟩ := two_nums rfl hl hf
    exact (does_mul b A S v x y w hv).mono fun _ _ => gl
  · obtain ⟨x, y, rfl⟩ := two_nums rfl hl hf
    have e1 : doesL key vals (11, A, S) [.num x, .num y] m = .give [flag (decide (x < y))] m := rfl
    rw [e1]
    cases hd : decide (x < y)
    · exact (does_less0 b A S v x y w hv hd).mono fun _ _ => gl
    · exact (does_less1 b A S v x y w hv hd).mono fun _ _ => gl
  · obtain ⟨a, c, rfl⟩ := len2 rfl hl
    have e1 : doesL key vals (12, A, S) [a, c] m = .give [flag (sameV a c)] m := rfl
    rw [e1]
    cases hd : sameV a c
    · exact (does_eq0 b A S v a c w hv hd).mono fun _ _ => gl
    · exact (does_eq1 b A S v a c w hv hd).mono fun _ _ => gl
  · obtain ⟨x, y, rfl⟩ := two_texts rfl hl hf
    exact (does_cat b A S v x y w hv (hav (.text x) (by simp)) (hav (.text y) (by simp))).mono fun _ _ => gl
  · obtain ⟨x, rfl⟩ := one_text rfl hl hf
    exact (does_len b A S v x w hv (hav (.text x) (by simp))).mono fun _ _ => gl
  · obtain ⟨x, y, rfl⟩ := text_num rfl hl hf
    exact (does_at b A S v x y w hv (small64 (hav (.text x) (by simp)))).mono fun _ _ => gl
  · obtain ⟨x, y, z, rfl⟩ := text_num2 rfl hl hf
    exact (does_cut b A S v x y z w hv (small64 (hav (.text x) (by simp)))).mono fun _ _ => gl
  · obtain ⟨x, rfl⟩ := one_num rfl hl hf
    exact (does_text b A S v x w hv (hav (.num x) (by simp))).mono fun _ _ => gl
  · obtain ⟨x, rfl⟩ := one_text rfl hl hf
    exact (does_number b A S v x w hv (small64 (hav (.text x) (by simp)))).mono fun _ _ => gl
  · exact (does_none20 b A S v w).mono fun _ _ => gl
  · obtain ⟨k, rfl⟩ : ∃ k : Nat, A = k := ⟨A.toNat, by have := hr (by omega); omega⟩
    exact (does_load h k (by have := hr (by omega); omega) S v).mono fun _ _ => gl
  · obtain ⟨k, rfl⟩ : ∃ k : Nat, A = k := ⟨A.toNat, by have := hr (by omega); omega⟩
    obtain ⟨a, rfl⟩ := len1 rfl hl
    exact does_store h ok.eight k (by have := hr (by omega); omega) S v a hv hne
  · obtain ⟨x, y, rfl⟩ := two_texts rfl hl hf
    have e1 : doesL key vals (23, A, S) [.text x, .text y] m = if 16 < x.size then .fail 4 else if 40 ≤ m.told.length then .fail 5 else .give [] { m with told := m.told ++ [(x, y)] } := rfl
    rw [e1]
    by_cases h1 : 16 < x.size
    · rw [if_pos h1]
      exact (does_big A S v x y hv h1).mono fun _ _ => Fails.doing h.bel (by omega)
    · rw [if_neg h1]
      by_cases h2 : 40 ≤ m.told.length
      · rw [if_pos h2]
        exact (does_many h A S v x y hv (by omega) h2).mono fun _ _ => Fails.doing h.bel (by omega)
      · rw [if_neg h2]
        exact does_emit h A S v x y hv (by omega) (by omega) hne hne2
end Go.Proofs.YtpggfdnpbipckaaGreatDoor
