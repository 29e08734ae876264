/- Laid together: RStepM RDoAll RStepL RStep. -/
import Derived.Test.YtpggfdnpbipckaaGreatDoorGVm
import Derived.Test.YtpggfdnpbipckaaGreatDoorRVal
import Derived.Test.YtpggfdnpbipckaaGreatDoorGDoes
/-! An instruction as chapter 6's own answer does it: what it needs, what it does of it, what is pushed. No program in this text. -/
namespace Go.Proofs.YtpggfdnpbipckaaGreatDoor
open Go.RowKit Go.Lib
set_option linter.unusedVariables false
set_option maxRecDepth 100000

/-- What an operation needs: 0 either, 1 a number, 2 bytes. -/
def ksOf : Nat → List Int
  | 3 => [0]
  | 4 => [0]
  | 22 => [0]
  | 5 => [0, 0]
  | 12 => [0, 0]
  | 8 => [1, 1]
  | 9 => [1, 1]
  | 10 => [1, 1]
  | 11 => [1, 1]
  | 13 => [2, 2]
  | 23 => [2, 2]
  | 14 => [2]
  | 18 => [2]
  | 15 => [2, 1]
  | 16 => [2, 1, 1]
  | 17 => [1]
  | 20 => [1]
  | _ => []
def kb (k : Int) : UInt8 := if k = 0 then 63 else if k = 1 then 110 else 116
theorem kindsOf_ks : ∀ o, o < 24 → kindsOf o = (ksOf o).map kb := by decide
theorem ksOf_len : ∀ o, o < 24 → (ksOf o).length ≤ 3 := by decide
theorem ksOf_some : ∀ o, o < 24 → ∀ k, k < (ksOf o).length → (ksOf o).getD k 0 = 0 ∨ (ksOf o).getD k 0 = 1 ∨ (ksOf o).getD k 0 = 2 := by decide

/-- What does answers: a reason, or what is pushed. -/
inductive Dn where
  | fail (r : Int)
  | give (out : List Val) (m : St)
def doesL (key : ByteArray) (vals : List ByteArray) (x : Inst) (av : List Val) (m : St) : Dn :=
  match x.1.toNat with
  | 1 => .give [.num x.2.1] m
  | 2 => .give [.text x.2.2] m
  | 3 => .give [at0 av, at0 av] m
  | 5 => .give [at1 av, at0 av] m
  | 6 => .give [.text key] m
  | 7 => if m.taken < vals.length then .give [.text (vals.getD m.taken ⟨#[]⟩), .num 1] { m with taken := m.taken + 1 } else .give [.num 0] m
  | 8 => .give [.num (wrap64 (nOf (at0 av) + nOf (at1 av)))] m
  | 9 => .give [.num (wrap64 (nOf (at0 av) - nOf (at1 av)))] m
  | 10 => .give [.num (wrap64 (nOf (at0 av) * nOf (at1 av)))] m
  | 11 => .give [flag (decide (nOf (at0 av) < nOf (at1 av)))] m
  | 12 => .give [flag (sameV (at0 av) (at1 av))] m
  | 13 => .give [.text (tOf (at0 av) ++ tOf (at1 av))] m
  | 14 => .give [.num (tOf (at0 av)).size] m
  | 15 => .give [.num (atV (tOf (at0 av)) (nOf (at1 av)))] m
  | 16 => .give [.text (cutV (tOf (at0 av)) (nOf (at1 av)) (nOf (at2 av)))] m
  | 17 => .give [.text (txt (itoa (nOf (at0 av))))] m
  | 18 => .give [.num (vNum (tOf (at0 av)).data.toList)] m
  | 21 => .give [m.regs.getD x.2.1.toNat (.num 0)] m
  | 22 => .give [] { m with regs := m.regs.set x.2.1.toNat (at0 av) }
  | 23 => if 16 < (tOf (at0 av)).size then .fail 4 else if 40 ≤ m.told.length then .fail 5 else .give [] { m with told := m.told ++ [(tOf (at0 av), tOf (at1 av))] }
  | _ => .give [] m
def afterL : Dn → Out
  | .fail r => .stop r
  | .give out m => push m m.stack out
def actL (key : ByteArray) (vals : List ByteArray) (x : Inst) (av : List Val) (m : St) : Out :=
  if x.1.toNat = 19 ∨ (x.1.toNat = 20 ∧ nOf (at0 av) ≠ 0) then .goto x.2.1 m else afterL (doesL key vals x av m)

variable {m : St} {key : ByteArray} {vals : List ByteArray} {x : Inst}
theorem needs0 (g : List Val → List Val → Out) : needs [] m g = g [] m.stack := by
  unfold needs
  rw [if_neg (by simp), if_pos (by rfl)]
  rfl
theorem push_none {m : St} (h : m.stack.length ≤ 16) : push m m.stack [] = .next m := by
  unfold push
  rw [if_neg (by simp), if_neg (by simp; omega)]
  rfl
theorem fits_num {a : Val} (h : fitsT 1 (tri a).1 = true) : ∃ n, a = .num n := by
  cases a with
  | num n => exact ⟨n, rfl⟩
  | text s => exact absurd h (by simp [fitsT, tri])
theorem fits_text {a : Val} (h : fitsT 2 (tri a).1 = true) : ∃ s, a = .text s := by
  cases a with
  | num n => exact absurd h (by simp [fitsT, tri])
  | text s => exact ⟨s, rfl⟩
theorem any1_needs {f : Val → List Val → Out} {g : List Val → List Val → Out} (k : Int) (h : ∀ a s, m.stack = a :: s → f a s = if fitsT k (tri a).1 = true then g [a] s else .stop 2) : any1 m f = needs [k] m g := by
  rw [needs1]
  unfold any1
  cases hs : m.stack with
  | nil => rfl
  | cons a s => exact h a s hs
theorem any2_needs {f : Val → Val → List Val → Out} {g : List Val → List Val → Out} (k l : Int) (h : ∀ a b s, m.stack = b :: a :: s → f a b s = if (fitsT k (tri a).1 && fitsT l (tri b).1) = true then g [a, b] s else .stop 2) : any2 m f = needs [k, l] m g := by
  rw [needs2]
  unfold any2
  match hs : m.stack with
  | [] => rfl
  | [b] => rfl
  | b :: a :: s => exact h a b s hs
theorem any3_needs {f : Val → Val → Val → List Val → Out} {g : List Val → List Val → Out} (k l j : Int) (h : ∀ a b c s, m.stack = c :: b :: a :: s → f a b c s = if (fitsT k (tri a).1 && (fitsT l (tri b).1 && fitsT j (tri c).1)) = true then g [a, b, c] s else .stop 2) : any3 m f = needs [k, l, j] m g := by
  rw [needs3]
  unfold any3
  match hs : m.stack with
  | [] => rfl
  | [b] => rfl
  | [c, b] => rfl
  | c :: b :: a :: s => exact h a b c s hs
/-- One instruction, but OpHalt. -/
theorem step_needs (hm : m.stack.length ≤ 16) (ho : x.1.toNat < 24) (h0 : x.1.toNat ≠ 0) : step key vals x m = needs (ksOf x.1.toNat) m fun av s => actL key vals x av { m with stack := s } := by
  have hc : x.1.toNat = 1 ∨ x.1.toNat = 2 ∨ x.1.toNat = 3 ∨ x.1.toNat = 4 ∨ x.1.toNat = 5 ∨ x.1.toNat = 6 ∨ x.1.toNat = 7 ∨ x.1.toNat = 8 ∨ x.1.toNat = 9 ∨ x.1.toNat = 10 ∨ x.1.toNat = 11 ∨ x.1.toNat = 12 ∨ x.1.toNat = 13 ∨ x.1.toNat = 14 ∨ x.1.toNat = 15 ∨ x.1.toNat = 16 ∨ x.1.toNat = 17 ∨ x.1.toNat = 18 ∨ x.1.toNat = 19 ∨ x.1.toNat = 20 ∨ x.1.toNat = 21 ∨ x.1.toNat = 22 ∨ x.1.toNat = 23 := by omega
  rcases hc with h | h | h | h | h | h | h | h | h | h | h | h | h | h | h | h | h | h | h | h | h | h | h <;> simp only [step, h, ksOf, actL, doesL]
  all_goals first
    | (rw [needs0]; rfl)
    | (rw [needs0]; by_cases ht : m.taken < vals.length <;> simp only [ht, if_true, if_false, afterL] <;> rfl)
    | (refine any1_needs _ fun a s hs => ?_; cases a <;> simp [isN, isT, fitsT, tri, afterL, at0, nOf, tOf] <;> rfl)
    | (refine any2_needs _ _ fun a b s hs => ?_; cases a <;> cases b <;> simp [isN, isT, fitsT, tri, afterL, at0, at1, nOf, tOf] <;> rfl)
    | (refine any3_needs _ _ _ fun a b c s hs => ?_; cases a <;> cases b <;> cases c <;> simp [isN, isT, fitsT, tri, afterL, at0, at1, at2, nOf, tOf] <;> rfl)
    | skip
  · refine any1_needs _ fun a s hs => ?_
    have hl : s.length ≤ 16 := by rw [hs] at hm; simp at hm; omega
    have hp := push_none (m := { m with stack := s }) hl
    cases a with
    | text t => simp [isN, fitsT, tri]
    | num n =>
      by_cases hn : n = 0
      · simp [isN, fitsT, tri, afterL, at0, nOf, hn]
        exact hp.symm
      · simp [isN, fitsT, tri, at0, nOf, hn]
  · refine any1_needs _ fun a s hs => ?_
    have hl : s.length ≤ 16 := by rw [hs] at hm; simp at hm; omega
    have hp := push_none (m := { m with stack := s, regs := m.regs.set x.2.1.toNat a }) hl
    simp [fitsT, afterL, at0]
    exact hp.symm
  · refine any2_needs _ _ fun a b s hs => ?_
    have hl : s.length ≤ 16 := by rw [hs] at hm; simp at hm; omega
    cases a with
    | num n => simp [isT, fitsT, tri]
    | text k =>
      cases b with
      | num n => simp [isT, fitsT, tri]
      | text v =>
        have hp := push_none (m := { m with stack := s, told := m.told ++ [(k, v)] }) hl
        simp [isT, fitsT, tri, at0, at1, tOf]
        unfold emit
        by_cases h1 : 16 < k.size
        · rw [if_pos h1, if_pos h1]; rfl
        · rw [if_neg h1, if_neg h1]
          by_cases h2 : 40 ≤ m.told.length
          · rw [if_pos h2, if_pos h2]; rfl
          · rw [if_neg h2, if_neg h2]
            exact hp.symm
end Go.Proofs.YtpggfdnpbipckaaGreatDoor
/-! does of chapter 6's own answer, whatever the instruction. -/
namespace Go.Proofs.YtpggfdnpbipckaaGreatDoor
open Go.RowKit Go.Lib
set_option linter.unusedVariables false
set_option maxRecDepth 100000

/-- What does answers, and leaves. -/
def Doing (w0 : World) (b : Nat) (key : ByteArray) (vv : Value) : Dn → Ending → World → Prop
  | .fail r, e, w' => ∃ vo, e = .returned (.tuple #[vo, .int .i64 r]) ∧ r ≠ 0 ∧ Below w0.heap.size w0 w'
  | .give out m, e, w' => Leaves w0 b key vv m out e w'
theorem Fails.doing {w0 : World} {b : Nat} {key : ByteArray} {vv : Value} {w : World} (hb : Below w0.heap.size w0 w) {r : Int} (hr : r ≠ 0) {e : Ending} {w' : World} (h : Fails w r e w') : Doing w0 b key vv (.fail r) e w' := by
  obtain ⟨vo, he, hb'⟩ := h
  exact ⟨vo, he, hr, below_then hb hb' hb.size⟩

theorem one_num {ks : List Int} {av : List Val} (hk : ks = [1]) (hl : av.length = ks.length) (hf : allFit ks av = true) : ∃ n, av = [.num n] := by
  subst hk
  match av, hl with
  | [a], _ =>
    rw [fit1] at hf
    obtain ⟨n, rfl⟩ := fits_num hf
    exact ⟨n, rfl⟩
theorem one_text {ks : List Int} {av : List Val} (hk : ks = [2]) (hl : av.length = ks.length) (hf : allFit ks av = true) : ∃ n, av = [.text n] := by
  subst hk
  match av, hl with
  | [a], _ =>
    rw [fit1] at hf
    obtain ⟨n, rfl⟩ := fits_text hf
    exact ⟨n, rfl⟩
theorem two_nums {ks : List Int} {av : List Val} (hk : ks = [1, 1]) (hl : av.length = ks.length) (hf : allFit ks av = true) : ∃ n k, av = [.num n, .num k] := by
  subst hk
  match av, hl with
  | [a, b], _ =>
    rw [fit2] at hf
    simp only [Bool.and_eq_true] at hf
    obtain ⟨n, rfl⟩ := fits_num hf.1
    obtain ⟨k, rfl⟩ := fits_num hf.2
    exact ⟨n, k, rfl⟩
theorem two_texts {ks : List Int} {av : List Val} (hk : ks = [2, 2]) (hl : av.length = ks.length) (hf : allFit ks av = true) : ∃ n k, av = [.text n, .text k] := by
  subst hk
  match av, hl with
  | [a, b], _ =>
    rw [fit2] at hf
    simp only [Bool.and_eq_true] at hf
    obtain ⟨n, rfl⟩ := fits_text hf.1
    obtain ⟨k, rfl⟩ := fits_text hf.2
    exact ⟨n, k, rfl⟩
theorem text_num {ks : List Int} {av : List Val} (hk : ks = [2, 1]) (hl : av.length = ks.length) (hf : allFit ks av = true) : ∃ n k, av = [.text n, .num k] := by
  subst hk
  match av, hl with
  | [a, b], _ =>
    rw [fit2] at hf
    simp only [Bool.and_eq_true] at hf
    obtain ⟨n, rfl⟩ := fits_text hf.1
    obtain ⟨k, rfl⟩ := fits_num hf.2
    exact ⟨n, k, rfl⟩
theorem text_num2 {ks : List Int} {av : List Val} (hk : ks = [2, 1, 1]) (hl : av.length = ks.length) (hf : allFit ks av = true) : ∃ n k j, av = [.text n, .num k, .num j] := by
  subst hk
  match av, hl with
  | [a, b, c], _ =>
    rw [fit3] at hf
    simp only [Bool.and_eq_true] at hf
    obtain ⟨n, rfl⟩ := fits_text hf.1
    obtain ⟨k, rfl⟩ := fits_num hf.2.1
    obtain ⟨j, rfl⟩ := fits_num hf.2.2
    exact ⟨n, k, j, rfl⟩
theorem len1 {ks : List Int} {av : List Val} {k : Int} (hk : ks = [k]) (hl : av.length = ks.length) : ∃ a, av = [a] := by
  subst hk
  match av, hl with
  | [a], _ => exact ⟨a, rfl⟩
theorem len2 {ks : List Int} {av : List Val} {k j : Int} (hk : ks = [k, j]) (hl : av.length = ks.length) : ∃ a b, av = [a, b] := by
  subst hk
  match av, hl with
  | [a, b], _ => exact ⟨a, b, rfl⟩

variable {w0 : World} {b : Nat} {key : ByteArray} {vv vs vt : Value} {m : St} {w : World} {vals : List ByteArray}
theorem small64 {s : ByteArray} (h : s.size ≤ 64) : s.size ≤ 9223372036854775807 := by omega
theorem does_all (h : Mac w0 b key vv vs vt m w) (ok : Ok vals m) (hvv : Txs w0 vv vals) (hfew : vals.length ≤ 100) (x : Inst) (n : Int) (hg : good x n = true) (h0 : ¬ x.1 = 0) (hj : ¬ x.1 = 19)
    (v : Value) (av : List Val) (hv : Vls w v av) (hl : av.length = (ksOf x.1.toNat).length) (hf : allFit (ksOf x.1.toNat) av = true) (hav : ∀ a ∈ av, a.ok) (hne : v.ownBlock ≠ some b) (hne2 : ∀ g, v.ownBlock = some g → vt.ownBlock ≠ some g) :
    Calls Tryz.prog 65 #[.pointer (some ⟨b, 0, none⟩), .agg #[.int .i64 x.1, .int .i64 x.2.1, .string x.2.2], v] w (Doing w0 b key vv (doesL key vals x av m)) := by
  have hb := good_op hg
  have hr := fun hx => good_reg hg hx
  obtain ⟨o, A, S⟩ := x
  simp only at hb hr h0 hj hl hf ⊢
  have hc : o = 1 ∨ o = 2 ∨ o = 3 ∨ o = 4 ∨ o = 5 ∨ o = 6 ∨ o = 7 ∨ o = 8 ∨ o = 9 ∨ o = 10 ∨ o = 11 ∨ o = 12 ∨ o = 13 ∨ o = 14 ∨ o = 15 ∨ o = 16 ∨ o = 17 ∨ o = 18 ∨ o = 20 ∨ o = 21 ∨ o = 22 ∨ o = 23 := by omega
  have gl : ∀ {out : List Val} {e : Ending} {w' : World}, Gives w out e w' → Doing w0 b key vv (.give out m) e w' := fun hg => hg.leaves h
  rcases hc with rfl | rfl | rfl | rfl | rfl | rfl | rfl | rfl | rfl | rfl | rfl | rfl | rfl | rfl | rfl | rfl | rfl | rfl | rfl | rfl | rfl | rfl
  · obtain rfl := List.eq_nil_of_length_eq_zero hl
    exact (does_int b A S v w hv).mono fun _ _ => gl
  · obtain rfl := List.eq_nil_of_length_eq_zero hl
    exact (does_bytes b A S v w hv).mono fun _ _ => gl
  · obtain ⟨a, rfl⟩ := len1 rfl hl
    exact (does_dup b A S v a w hv).mono fun _ _ => gl
  · exact (does_none4 b A S v w).mono fun _ _ => gl
  · obtain ⟨a, c, rfl⟩ := len2 rfl hl
    exact (does_swap b A S v a c w hv).mono fun _ _ => gl
  · exact (does_key h A S v).mono fun _ _ => gl
  · obtain ⟨ao, cap, rfl, h1, h2, h3, h4⟩ := hvv
    by_cases ht : m.taken < vals.length
    · obtain ⟨n0, off, rfl, hlt, hcell⟩ := h4 (by intro e; rw [e] at ht; simp at ht)
      have hx := hcell m.taken _ (List.getElem?_eq_getElem ht) 0 _ rfl
      have hx' : w.cell? ⟨n0, off + m.taken, none⟩ = some (.string vals[m.taken]) := (h.bel.cell (p := ⟨n0, off + m.taken, none⟩) hlt).trans (by simpa using hx)
      have e1 : doesL key vals (7, A, S) av m = .give [.text vals[m.taken], .num 1] { m with taken := m.taken + 1 } := by
        show (if m.taken < vals.length then _ else _) = _
        rw [if_pos ht, List.getD_eq_getElem?_getD, List.getElem?_eq_getElem ht]
        rfl
      rw [e1]
      exact does_next1 h hx' hlt ht (by omega) A S v
    · have e1 : doesL key vals (7, A, S) av m = .give [.num 0] m := by
        show (if m.taken < vals.length then _ else _) = _
        rw [if_neg ht]
      rw [e1]
      exact (does_next0 h (by omega) (by have := ok.tk; omega) A S v).mono fun _ _ => gl
  · obtain ⟨x, y, rfl⟩ := two_nums rfl hl hf
    exact (does_add b A S v x y w hv).mono fun _ _ => gl
  · obtain ⟨x, y, rfl⟩ := two_nums rfl hl hf
    exact (does_sub b A S v x y w hv).mono fun _ _ => gl
  · obtain ⟨x, y, rfl⟩ := two_nums rfl hl hf
    exact (does_mul b A S v x y w hv).mono fun _ _ => gl
  · obtain ⟨x, y, rfl⟩ := two_nums rfl hl hf
    have e1 : doesL key vals (11, A, S) [.num x, .num y] m = .give [flag (decide (x < y))] m := rfl
    rw [e1]
    cases hd : decide (x < y)
    · exact (does_less0 b A S v x y w hv hd).mono fun _ _ => gl
    · exact (does_less1 b A S v x y w hv hd).mono fun _ _ => gl
  · obtain ⟨a, c, rfl⟩ := len2 rfl hl
    have e1 : doesL key vals (12, A, S) [a, c] m = .give [flag (sameV a c)] m := rfl
    rw [e1]
    cases hd : sameV a c
    · exact (does_eq0 b A S v a c w hv hd).mono fun _ _ => gl
    · exact (does_eq1 b A S v a c w hv hd).mono fun _ _ => gl
  · obtain ⟨x, y, rfl⟩ := two_texts rfl hl hf
    exact (does_cat b A S v x y w hv (hav (.text x) (by simp)) (hav (.text y) (by simp))).mono fun _ _ => gl
  · obtain ⟨x, rfl⟩ := one_text rfl hl hf
    exact (does_len b A S v x w hv (hav (.text x) (by simp))).mono fun _ _ => gl
  · obtain ⟨x, y, rfl⟩ := text_num rfl hl hf
    exact (does_at b A S v x y w hv (small64 (hav (.text x) (by simp)))).mono fun _ _ => gl
  · obtain ⟨x, y, z, rfl⟩ := text_num2 rfl hl hf
    exact (does_cut b A S v x y z w hv (small64 (hav (.text x) (by simp)))).mono fun _ _ => gl
  · obtain ⟨x, rfl⟩ := one_num rfl hl hf
    exact (does_text b A S v x w hv (hav (.num x) (by simp))).mono fun _ _ => gl
  · obtain ⟨x, rfl⟩ := one_text rfl hl hf
    exact (does_number b A S v x w hv (small64 (hav (.text x) (by simp)))).mono fun _ _ => gl
  · exact (does_none20 b A S v w).mono fun _ _ => gl
  · obtain ⟨k, rfl⟩ : ∃ k : Nat, A = k := ⟨A.toNat, by have := hr (by omega); omega⟩
    exact (does_load h k (by have := hr (by omega); omega) S v).mono fun _ _ => gl
  · obtain ⟨k, rfl⟩ : ∃ k : Nat, A = k := ⟨A.toNat, by have := hr (by omega); omega⟩
    obtain ⟨a, rfl⟩ := len1 rfl hl
    exact does_store h ok.eight k (by have := hr (by omega); omega) S v a hv hne
  · obtain ⟨x, y, rfl⟩ := two_texts rfl hl hf
    have e1 : doesL key vals (23, A, S) [.text x, .text y] m = if 16 < x.size then .fail 4 else if 40 ≤ m.told.length then .fail 5 else .give [] { m with told := m.told ++ [(x, y)] } := rfl
    rw [e1]
    by_cases h1 : 16 < x.size
    · rw [if_pos h1]
      exact (does_big A S v x y hv h1).mono fun _ _ => Fails.doing h.bel (by omega)
    · rw [if_neg h1]
      by_cases h2 : 40 ≤ m.told.length
      · rw [if_pos h2]
        exact (does_many h A S v x y hv (by omega) h2).mono fun _ _ => Fails.doing h.bel (by omega)
      · rw [if_neg h2]
        exact does_emit h A S v x y hv (by omega) (by omega) hne hne2
end Go.Proofs.YtpggfdnpbipckaaGreatDoor
/-! step of chapter 6's own answer: what its walk leans on. -/
namespace Go.Proofs.YtpggfdnpbipckaaGreatDoor
open Go.RowKit Go.Lib
set_option linter.unusedVariables false
set_option maxRecDepth 100000

/-- What step answers, and leaves. -/
def SDid (w0 : World) (b : Nat) (key : ByteArray) (vv : Value) : Out → Ending → World → Prop
  | .stop r, e, w' => e = .returned (.tuple #[.int .i64 r, .int .i64 (-1)]) ∧ r ≠ 0 ∧ Below w0.heap.size w0 w'
  | .next m, e, w' => e = .returned (.tuple #[.int .i64 0, .int .i64 (-1)]) ∧ ∃ vs vt, Mac w0 b key vv vs vt m w'
  | .goto t m, e, w' => e = .returned (.tuple #[.int .i64 0, .int .i64 t]) ∧ ∃ vs vt, Mac w0 b key vv vs vt m w'

theorem kb_size (ks : List Int) : (tx (ks.map kb)).size = ks.length := by simp [ByteArray.size]
theorem kb_at {ks : List Int} {k : Nat} (h : k < (tx (ks.map kb)).size) : (tx (ks.map kb))[k] = kb (ks.getD k 0) := by
  have hk : k < ks.length := by rw [kb_size] at h; exact h
  show ((ks.map kb).toArray)[k]'(by simpa using hk) = _
  simp [List.getD, hk]

variable {w0 : World} {b : Nat} {key : ByteArray} {vv vs vt : Value} {m : St} {w : World} {vals : List ByteArray}
theorem add_at (b off j : Nat) : (⟨b, off, none⟩ : Addr).add j = ⟨b, off + j, none⟩ := by unfold Addr.add; split <;> simp_all
theorem tops_rev (m : St) {n : Nat} (h : ¬ m.stack.length < n) : m.stack.reverse = (m.stack.drop n).reverse ++ tops m n := by
  unfold tops
  rw [← List.reverse_append, List.take_append_drop]
theorem tops_len (m : St) {n : Nat} (h : ¬ m.stack.length < n) : (tops m n).length = n := by simp [tops]; omega
/-- The upper part of a row that the call owns. -/
theorem cut_high {base N n sc : Nat} {so ao : Option Addr} (h : w.ownsRow base 57 3 (.slice so m.stack.length sc) m.stack.length (fl encV m.stack.reverse)) (hN : m.stack.length = N + n) (hao : (if sc = N then so else Option.map (fun x => x.add (N * 3)) so) = ao) :
    (fl encV (tops m n)).length = n * 3 ∧ (ao = none → n = 0 ∧ sc - N = 0) ∧ ∀ ad, ao = some ad → ∀ j u, (fl encV (tops m n))[j]? = some u → w.cell? (ad.add j) = some u := by
  have hl : (fl encV (tops m n)).length = n * 3 := by rw [fl_length encV_len, tops_len m (by omega)]
  have hrev := tops_rev m (n := n) (by omega)
  have hlow : (fl encV (m.stack.drop n).reverse).length = N * 3 := by rw [fl_length encV_len]; simp; omega
  refine ⟨hl, ?_, ?_⟩
  · intro e
    rcases h.2 with ⟨h1, h2⟩ | ⟨g, cap, cur, h1, _⟩
    · simp only [Value.slice.injEq] at h1
      omega
    · cases h1
      subst hao
      split at e
      · cases e
      · cases e
  · intro ad had j u hu
    have hj : j < n * 3 := by have := (List.getElem?_eq_some_iff.1 hu).1; omega
    rcases h.2 with ⟨h1, h2⟩ | ⟨g, cap, cur, h1, _, _, hcap, _⟩
    · omega
    · cases h1
      rw [if_neg (by omega)] at hao
      subst hao
      cases had
      have hadd : ((⟨g, 0, none⟩ : Addr).add (N * 3)).add j = ⟨g, N * 3 + j, none⟩ := by rw [add_at, add_at, Nat.zero_add]
      rw [hadd, h.cellAt _ (by omega), hrev, fl_append, List.getElem?_append_right (by omega), hlow, show N * 3 + j - N * 3 = j by omega]
      exact hu
/-- The lower part of a row that the call owns. -/
theorem cut_low {base N n sc : Nat} {so : Option Addr} (h : w.ownsRow base 57 3 (.slice so m.stack.length sc) m.stack.length (fl encV m.stack.reverse)) (hN : m.stack.length = N + n) :
    N ≤ sc ∧ (fl encV (m.stack.drop n).reverse).length = N * 3 ∧ (so = none → N = 0 ∧ sc = 0) ∧ ∀ ad, so = some ad → ∀ j u, (fl encV (m.stack.drop n).reverse)[j]? = some u → w.cell? (ad.add j) = some u := by
  have hrev := tops_rev m (n := n) (by omega)
  have hlow : (fl encV (m.stack.drop n).reverse).length = N * 3 := by rw [fl_length encV_len]; simp; omega
  rcases h.2 with ⟨h1, h2⟩ | ⟨g, cap, cur, h1, _, _, hcap, _⟩
  · simp only [Value.slice.injEq] at h1
    refine ⟨by omega, hlow, fun _ => ⟨by omega, by omega⟩, fun ad had => ?_⟩
    rw [h1.1] at had
    cases had
  · cases h1
    refine ⟨by omega, hlow, fun e => (by cases e), fun ad had j u hu => ?_⟩
    cases had
    have hj : j < N * 3 := by have := (List.getElem?_eq_some_iff.1 hu).1; omega
    rw [add_at, Nat.zero_add, h.cellAt _ (by omega), hrev, fl_append, List.getElem?_append_left (by omega)]
    exact hu
theorem Mac.heap (h : Mac w0 b key vv vs vt m w) : ∃ cs, w.heap[b]? = some (.cells cs 69 (0, 0)) := by
  obtain ⟨cs, hc, _⟩ := h.blk
  exact ⟨cs, hc⟩
/-- Rows of two kinds of element lie apart. -/
theorem owns_apart {e s n base e2 s2 n2 base2 : Nat} {v v2 : Value} {xs xs2 : List Value} (h : w.ownsRow base e s v n xs) (h2 : w.ownsRow base2 e2 s2 v2 n2 xs2) (he : e ≠ e2) : ∀ g, v.ownBlock = some g → v2.ownBlock ≠ some g := by
  intro g hg
  rcases h.2 with ⟨rfl, _⟩ | ⟨g', cap, cur, rfl, hb, hh, r⟩
  · cases hg
  · cases hg
    exact owns_off h2 hh he
/-- The stack's row has grown, and its slice is written anew. -/
theorem Mac.pushed (h : Mac w0 b key vv vs vt m w) {w' : World} {vs' : Value} {l : List Val} (ho : w'.ownsRow w0.heap.size 57 3 vs' l.length (fl encV l.reverse)) (hg : w.grownBy w' vs.ownBlock) : Mac w0 b key vv vs' vt { m with stack := l } (w'.setCell ⟨b, 0, none⟩ vs') := by
  obtain ⟨cs, hc, hC⟩ := h.blk
  have hb : w'.heap[b]? = some (.cells cs 69 (0, 0)) := (hg.block _ (Array.getElem?_eq_some_iff.1 hc).1 (fun e => owns_off h.st hc (by decide) e.symm)).trans hc
  have hbel : Below w0.heap.size w0 w' := h.bel.grown hg h.bel.size (fun q hq => owns_base h.st hq)
  refine ⟨below_set hbel h.base 0 vs', h.base, ⟨_, set_block hb 0 vs', ?_⟩, owns_set ho hb (by decide) 0 vs', owns_set (owns_grown h.tl h.st (by decide) hg) hb (by decide) 0 vs'⟩
  exact ⟨by simpa using hC.size, by rw [set_self (by rw [hC.size]; omega)], fun k hk i u hu => by
    rw [Array.getElem?_setIfInBounds_ne (by omega)]; exact hC.r k hk i u hu, by rw [Array.getElem?_setIfInBounds_ne (by omega)]; exact hC.k, by rw [Array.getElem?_setIfInBounds_ne (by omega)]; exact hC.v, by rw [Array.getElem?_setIfInBounds_ne (by omega)]; exact hC.t, by rw [Array.getElem?_setIfInBounds_ne (by omega)]; exact hC.p⟩
/-- What does gives is short, and leaves the stack as it was. -/
theorem doesL_short {x : Inst} {av out : List Val} {m' : St} (h : doesL key vals x av m = .give out m') : out.length ≤ 2 ∧ m'.stack = m.stack := by
  unfold doesL at h
  split at h
  all_goals first
    | (cases h; exact ⟨by simp, rfl⟩)
    | (split at h <;> first | (cases h; exact ⟨by simp, rfl⟩) | (split at h <;> first | (cases h; exact ⟨by simp, rfl⟩) | cases h) | cases h)
theorem ok_drop (ok : Ok vals m) (n : Nat) : Ok vals { m with stack := m.stack.drop n } :=
  ⟨by have := ok.high; simp; omega, fun v hv => ok.vs v (List.mem_of_mem_drop hv), ok.eight, ok.rs, ok.few, ok.ps, ok.tk⟩
theorem ok_tops (ok : Ok vals m) (n : Nat) : ∀ v ∈ tops m n, v.ok := fun v hv => ok.vs v (List.mem_of_mem_take (List.mem_reverse.1 hv))
theorem nobig_all {out : List Val} (h : ∀ j, j < out.length → (out.getD j zV).big = false) : out.any Val.big = false := by
  rw [List.any_eq_false]
  intro v hv e
  obtain ⟨j, hj, rfl⟩ := List.mem_iff_getElem.1 hv
  have := h j hj
  rw [List.getD_eq_getElem?_getD, List.getElem?_eq_getElem hj] at this
  rw [show ((some out[j]).getD zV) = out[j] from rfl, e] at this
  cases this
theorem some_big {out : List Val} {j : Nat} (hj : j < out.length) (h : (out.getD j zV).big = true) : out.any Val.big = true := by
  rw [List.getD_eq_getElem?_getD, List.getElem?_eq_getElem hj] at h
  exact List.any_eq_true.2 ⟨_, List.getElem_mem hj, h⟩
theorem big_tri (a : Val) : a.big = ((tri a).1 && decide (64 < (tri a).2.2.size)) := by cases a <;> rfl
theorem upto_big {out : List Val} {k : Nat} (h : ∀ j, j < k → (out.getD j zV).big = false) (hk : (out.getD k zV).big = false) : ∀ j, j < k + 1 → (out.getD j zV).big = false := by
  intro j hj
  by_cases e : j = k
  · rw [e]; exact hk
  · exact h j (by omega)
theorem upto_step {ks : List Int} {av : List Val} {k : Nat} (h : ∀ j, j < k → fitsT (ks.getD j 0) (tri (av.getD j zV)).1 = true) (hk : fitsT (ks.getD k 0) (tri (av.getD k zV)).1 = true) : ∀ j, j < k + 1 → fitsT (ks.getD j 0) (tri (av.getD j zV)).1 = true := by
  intro j hj
  by_cases e : j = k
  · rw [e]; exact hk
  · exact h j (by omega)
theorem fit_not {ks : List Int} {av : List Val} {k : Nat} (hk : k < ks.length) (h : fitsT (ks.getD k 0) (tri (av.getD k zV)).1 = false) : allFit ks av = false := by
  cases hf : allFit ks av with
  | false => rfl
  | true => rw [allFit_true hf k hk] at h; cases h
end Go.Proofs.YtpggfdnpbipckaaGreatDoor
/-! step of chapter 6's own answer. -/
namespace Go.Proofs.YtpggfdnpbipckaaGreatDoor
open Go.RowKit Go.Lib
set_option linter.unusedVariables false
set_option maxRecDepth 100000

variable {w0 : World} {b : Nat} {key : ByteArray} {vv vs vt : Value} {m : St} {w : World} {vals : List ByteArray}
set_option maxHeartbeats 8000000 in
set_option maxRecDepth 100000 in
theorem rstep_any (h : Mac w0 b key vv vs vt m w) (ok : Ok vals m) (hvv : Txs w0 vv vals) (hfew : vals.length ≤ 100) (x : Inst) (n : Int) (hg : good x n = true) (h0 : ¬ x.1 = 0) :
    Calls Tryz.prog 37 #[.pointer (some ⟨b, 0, none⟩), .agg #[.int .i64 x.1, .int .i64 x.2.1, .string x.2.2]] w (SDid w0 b key vv (step key vals x m)) := by
  have hop := good_op hg
  obtain ⟨xo, A, S⟩ := x
  simp only at hop h0
  obtain ⟨o, rfl⟩ : ∃ o : Nat, xo = o := ⟨xo.toNat, by omega⟩
  have ho2 : (o : Int).toNat = o := by omega
  have ho3 : o < 24 := by omega
  rw [step_needs ok.high (by simp only; omega) (by simp only; omega)]
  simp only [ho2]
  have HK := hid (kinds_calls o ho3)
  rw [kindsOf_ks o ho3] at HK
  have hL := ksOf_len o ho3
  have HS := hid (ksOf_some o ho3)
  have HD := hid (fun (m1 : St) (ok1 : Ok vals m1) (vs1 vt1 : Value) (w1 : World) (h1 : Mac w0 b key vv vs1 vt1 m1 w1) (hj : ¬ (o : Int) = 19) (v : Value) (av : List Val) => does_all (w := w1) h1 ok1 hvv hfew ((o : Int), A, S) n hg h0 hj v av)
  simp only [ho2] at HD
  have HJ := hid (show (o = 19 → ksOf o = []) ∧ (o = 20 → ksOf o = [1]) from ⟨fun e => by rw [e]; rfl, fun e => by rw [e]; rfl⟩)
  generalize hgg : (fun (av : List Val) (s : List Val) => actL key vals ((o : Int), A, S) av { m with stack := s }) = g
  have HGG := hid hgg
  clear hgg
  obtain ⟨so, sc, rfl⟩ := own_slice h.st
  have H1 := alloc1 w (Obj.cells #[.int .i64 (o : Int), .int .i64 A, .string S] 43)
  have hin := new_block w (Obj.cells #[.int .i64 (o : Int), .int .i64 A, .string S] 43)
  have i0 : (w.alloc (Obj.cells #[.int .i64 (o : Int), .int .i64 A, .string S] 43)).cell? ⟨w.heap.size, 0, none⟩ = some (.int .i64 (o : Int)) := by rw [cell_of_cells hin]; rfl
  have HM := hid (h.on H1)
  have HIN := hid hin
  have hwb : w.heap.size ≠ b := by have := h.lt; omega
  have c0 := HM.out.cS
  have OK := hid ok
  have hst := ok.high
  clear h ok hg h0 hop ho2 hvv H1 hin
  go_enter Tryz.func37, Tryz.ntmps37
  go_wp2_with fail
  refine (HK.out _).mono ?_
  rintro e w1 ⟨rfl, rfl⟩
  clear HK
  generalize w.alloc (Obj.cells #[.int .i64 (o : Int), .int .i64 A, .string S] 43) = W at HM HIN i0 c0 ⊢
  generalize w.heap.size = q at hwb HIN i0 ⊢
  generalize ksOf o = ks at *
  have hKs := kb_size ks
  have HKA := hid (fun k h => @kb_at ks k h)
  generalize tx (ks.map kb) = K at hKs HKA ⊢
  by_cases hk : m.stack.length < ks.length
  · have hd : decide (((m.stack.length : Nat) : Int) - ((ks.length : Nat) : Int) < 0) = true := by simp; omega
    have HP := hid (show needs ks m g = .stop 1 from needs_short hk)
    go_wp2
    go_ret2
    rw [HP.out]
    exact ⟨rfl, by decide, HM.out.bel⟩
  obtain ⟨N, hN⟩ : ∃ N, m.stack.length = N + ks.length := ⟨m.stack.length - ks.length, by omega⟩
  have hsub : ((m.stack.length : Nat) : Int) - ((ks.length : Nat) : Int) = (N : Int) := by omega
  obtain ⟨i0V, hiV, hz0, hz1, hz2⟩ := info_parts Tryz.infoV
  obtain ⟨ao, hao⟩ : ∃ ao, (if sc = N then so else Option.map (fun x => x.add (N * 3)) so) = ao := ⟨_, rfl⟩
  have HA := hid (cut_high HM.out.st hN hao)
  have hcap := hid hao
  have hrev := tops_rev m hk
  go_wp2_with (at_builtin; refine wpList_append_own_any _ rfl _ _ 55 rfl w0.heap.size 57 i0V _ 3 32 Tryz.underlying55 hiV hz0 hz1 hz2 rfl (by decide) (.slice none 0 0) 0 [] rfl (World.ownsRow_nil _ _ _ _) ao ks.length (sc - N) (fl encV (tops m ks.length)) rfl HA.out.1 HA.out.2.1 HA.out.2.2 (fl_one encV_one _) (by unfold maxLen; omega) (by omega) HM.out.bel.size ?_; intro v1 w2 ho1 hg1)
  have HB := hid (show Below W.heap.size W w2 from ⟨hg1.os, hg1.tape, hg1.output, hg1.size, fun k hk => hg1.block k hk (by simp [Value.ownBlock])⟩)
  have HM2 := hid (HM.out.on HB.out)
  have HO := hid ho1
  have HV := hid (show Vls w2 v1 (tops m ks.length) from Reads.own encV_len (by decide) ho1)
  obtain ⟨lo, lc, rfl⟩ := own_slice ho1
  obtain ⟨av, hav⟩ : ∃ av, tops m ks.length = av := ⟨_, rfl⟩
  have HAV := hid hav.symm
  rw [hav] at HV HO
  have hal : av.length = ks.length := by rw [← hav]; exact tops_len m hk
  have c0' := HM2.out.cS
  have i0' : w2.cell? ⟨q, 0, none⟩ = some (.int .i64 (o : Int)) := stays_cell HB.out (lt_of_block HIN.out) i0
  clear ho1 hg1 hav HA hcap hao hrev c0 i0 HM
  rw [Nat.zero_add] at HO
  go_loop [4, 5, 9] (fun _ _ i => ∃ k : Nat, k ≤ ks.length ∧ i = .int .i64 k ∧ Hid (∀ j, j < k → fitsT (ks.getD j 0) (tri (av.getD j zV)).1 = true)) (fun _ _ i => ks.length - (Go.RowKit.intOf i).toNat)
  case atStart => exact ⟨0, by omega, rfl, fun j hj => by omega⟩
  case round =>
    obtain ⟨k, hkn, rfl, HF⟩ := hrel
    by_cases hkl : k < ks.length
    · have hd4 : decide ((k : Int) < (ks.length : Int)) = true := by simp; omega
      have hkK : k < K.size := by omega
      have hKk := HKA.out k hkK
      obtain ⟨ab, aoff, rfl, habl, hac⟩ := HV.out.cells (j := k) (by omega)
      have ca := hac 0 _ (by rw [encV_tri]; rfl)
      simp only [Nat.add_zero] at ca
      have hgd : av[k]'(by omega) = av.getD k zV := by rw [List.getD_eq_getElem?_getD, List.getElem?_eq_getElem (by omega)]; rfl
      rw [hgd] at ca
      have hcs := HS.out k hkl
      clear hac hgd
      rcases hcs with hc | hc | hc
      · cases ht : (tri (av.getD k zV)).1
        · rw [ht] at ca
          have hb : ((K[k]'hkK).toNat : Int) = 63 := by rw [hKk, hc]; rfl
          have HF2 := hid (show ∀ j, j < k + 1 → fitsT (ks.getD j 0) (tri (av.getD j zV)).1 = true from upto_step HF.out (by rw [hc, ht]; rfl))
          clear hKk hc ht
          go_wp2
          go_round
          case rel => exact ⟨k + 1, by omega, by go_num, HF2⟩
          case measure => simp [Go.RowKit.intOf]; omega
        · rw [ht] at ca
          have hb : ((K[k]'hkK).toNat : Int) = 63 := by rw [hKk, hc]; rfl
          have HF2 := hid (show ∀ j, j < k + 1 → fitsT (ks.getD j 0) (tri (av.getD j zV)).1 = true from upto_step HF.out (by rw [hc, ht]; rfl))
          clear hKk hc ht
          go_wp2
          go_round
          case rel => exact ⟨k + 1, by omega, by go_num, HF2⟩
          case measure => simp [Go.RowKit.intOf]; omega
      · cases ht : (tri (av.getD k zV)).1
        · rw [ht] at ca
          have hb : ((K[k]'hkK).toNat : Int) = 110 := by rw [hKk, hc]; rfl
          have HF2 := hid (show ∀ j, j < k + 1 → fitsT (ks.getD j 0) (tri (av.getD j zV)).1 = true from upto_step HF.out (by rw [hc, ht]; rfl))
          clear hKk hc ht
          go_wp2
          go_round
          case rel => exact ⟨k + 1, by omega, by go_num, HF2⟩
          case measure => simp [Go.RowKit.intOf]; omega
        · rw [ht] at ca
          have hb : ((K[k]'hkK).toNat : Int) = 110 := by rw [hKk, hc]; rfl
          have HP := hid (show needs ks m g = .stop 2 from needs_unfit hk (by rw [← HAV.out]; exact fit_not hkl (by rw [hc, ht]; rfl)))
          clear hKk hc ht
          go_wp2
          go_ret2
          rw [HP.out]
          exact ⟨rfl, by decide, HM2.out.bel⟩
      · cases ht : (tri (av.getD k zV)).1
        · rw [ht] at ca
          have hb : ((K[k]'hkK).toNat : Int) = 116 := by rw [hKk, hc]; rfl
          have HP := hid (show needs ks m g = .stop 2 from needs_unfit hk (by rw [← HAV.out]; exact fit_not hkl (by rw [hc, ht]; rfl)))
          clear hKk hc ht
          go_wp2
          go_ret2
          rw [HP.out]
          exact ⟨rfl, by decide, HM2.out.bel⟩
        · rw [ht] at ca
          have hb : ((K[k]'hkK).toNat : Int) = 116 := by rw [hKk, hc]; rfl
          have HF2 := hid (show ∀ j, j < k + 1 → fitsT (ks.getD j 0) (tri (av.getD j zV)).1 = true from upto_step HF.out (by rw [hc, ht]; rfl))
          clear hKk hc ht
          go_wp2
          go_round
          case rel => exact ⟨k + 1, by omega, by go_num, HF2⟩
          case measure => simp [Go.RowKit.intOf]; omega
    have hd4 : decide ((k : Int) < (ks.length : Int)) = false := by simp; omega
    obtain rfl : k = ks.length := by omega
    have HFT := hid (show allFit ks av = true from List.all_eq_true.2 (fun j hj => HF.out j (List.mem_range.1 hj)))
    have HL := hid (cut_low HM2.out.st hN)
    have hNsc : (N : Int) ≤ (sc : Int) := by have := HL.out.1; omega
    have f0 := HM2.out.free 0
    have hq2 : q < w2.heap.size := by have := HB.out.size; have := lt_of_block HIN.out; omega
    have i1' : w2.cell? ⟨q, 1, none⟩ = some (.int .i64 A) := stays_cell HB.out (lt_of_block HIN.out) (by rw [cell_of_cells HIN.out]; rfl)
    have i2' : w2.cell? ⟨q, 2, none⟩ = some (.string S) := stays_cell HB.out (lt_of_block HIN.out) (by rw [cell_of_cells HIN.out]; rfl)
    have HFIT := hid (show needs ks m g = actL key vals ((o : Int), A, S) av { m with stack := m.stack.drop ks.length } from by
      rw [needs_fit hk (by rw [← HAV.out]; exact HFT.out), ← HAV.out, ← HGG.out])
    by_cases h19 : (o : Int) = 19
    · have HP := hid (HFIT.out.trans (if_pos (.inl (by simp only; omega))))
      go_wp2_with (at_builtin; refine wpList_append_own_any _ rfl _ _ 55 rfl w0.heap.size 57 i0V _ 3 32 Tryz.underlying55 hiV hz0 hz1 hz2 rfl (by decide) (.slice none 0 0) 0 [] rfl (World.ownsRow_nil _ _ _ _) so N sc (fl encV (m.stack.drop ks.length).reverse) rfl HL.out.2.1 HL.out.2.2.1 HL.out.2.2.2 (fl_one encV_one _) (by unfold maxLen; omega) (by omega) HM2.out.bel.size ?_; (intro v3 w3 ho3 hg3); (have HB3 := hid (show Below w2.heap.size w2 w3 from ⟨hg3.os, hg3.tape, hg3.output, hg3.size, fun k hk => hg3.block k hk (by simp [Value.ownBlock])⟩)); (obtain ⟨ao3, ac3, rfl⟩ := own_slice ho3); (have HO3 := hid ho3); (have d0 := (HM2.out.on HB3.out).cS); (have g0 := (HM2.out.on HB3.out).free 0); (have j0 : (w3.setCell ⟨b, 0, none⟩ (.slice ao3 N ac3)).cell? ⟨q, 0, none⟩ = some (.int .i64 (o : Int)) := (set_cell_off hwb).trans (stays_cell HB3.out hq2 i0')); (have j1 : (w3.setCell ⟨b, 0, none⟩ (.slice ao3 N ac3)).cell? ⟨q, 1, none⟩ = some (.int .i64 A) := (set_cell_off hwb).trans (stays_cell HB3.out hq2 i1')); (have j2 : (w3.setCell ⟨b, 0, none⟩ (.slice ao3 N ac3)).cell? ⟨q, 2, none⟩ = some (.string S) := (set_cell_off hwb).trans (stays_cell HB3.out hq2 i2')); clear ho3 hg3)
      have HM4 := hid (show Mac w0 b key vv (.slice ao3 N ac3) vt { m with stack := m.stack.drop ks.length } (w3.setCell ⟨b, 0, none⟩ (.slice ao3 N ac3)) from Mac.stack (l := m.stack.drop ks.length) (HM2.out.on HB3.out) (by rw [List.length_drop, show m.stack.length - ks.length = N by omega]; simpa using HO3.out))
      go_quiet (fail)
      go_wp2
      go_ret2
      rw [HP.out]
      exact ⟨rfl, _, _, HM4.out.on (below_drew _ _)⟩
    by_cases h20 : (o : Int) = 20
    · obtain ⟨n1, hn1⟩ : ∃ n1, av = [.num n1] := one_num (HJ.out.2 (by omega)) hal HFT.out
      obtain ⟨ab, aoff, rfl, habl, hac⟩ := HV.out.cells (j := 0) (by rw [hn1]; simp)
      have ca1 : w2.cell? ⟨ab, aoff + 1, none⟩ = some (.int .i64 n1) := by
        have := hac 1 (.int .i64 n1) (by simp only [hn1, List.getElem_cons_zero]; rfl)
        simpa using this
      obtain ⟨cs2, hcs2⟩ := HM2.out.heap
      have hab : ab ≠ b := fun e => owns_off HO.out hcs2 (by decide) (by rw [e]; rfl)
      have hks2 : (0 : Int) < (ks.length : Int) := by rw [HJ.out.2 (by omega)]; decide
      have HN1 := hid hn1
      clear hac hn1
      by_cases hz : n1 = 0
      · have HACT := hid (HFIT.out.trans (if_neg (by rintro (h | ⟨_, h⟩); (simp only at h; omega); (rw [HN1.out] at h; exact h hz))))
        subst hz
        go_wp2_with (at_builtin; refine wpList_append_own_any _ rfl _ _ 55 rfl w0.heap.size 57 i0V _ 3 32 Tryz.underlying55 hiV hz0 hz1 hz2 rfl (by decide) (.slice none 0 0) 0 [] rfl (World.ownsRow_nil _ _ _ _) so N sc (fl encV (m.stack.drop ks.length).reverse) rfl HL.out.2.1 HL.out.2.2.1 HL.out.2.2.2 (fl_one encV_one _) (by unfold maxLen; omega) (by omega) HM2.out.bel.size ?_; (intro v3 w3 ho3 hg3); (have HB3 := hid (show Below w2.heap.size w2 w3 from ⟨hg3.os, hg3.tape, hg3.output, hg3.size, fun k hk => hg3.block k hk (by simp [Value.ownBlock])⟩)); (obtain ⟨ao3, ac3, rfl⟩ := own_slice ho3); (have HO3 := hid ho3); (have d0 := (HM2.out.on HB3.out).cS); (have g0 := (HM2.out.on HB3.out).free 0); (have j0 : (w3.setCell ⟨b, 0, none⟩ (.slice ao3 N ac3)).cell? ⟨q, 0, none⟩ = some (.int .i64 (o : Int)) := (set_cell_off hwb).trans (stays_cell HB3.out hq2 i0')); (have j1 : (w3.setCell ⟨b, 0, none⟩ (.slice ao3 N ac3)).cell? ⟨q, 1, none⟩ = some (.int .i64 A) := (set_cell_off hwb).trans (stays_cell HB3.out hq2 i1')); (have j2 : (w3.setCell ⟨b, 0, none⟩ (.slice ao3 N ac3)).cell? ⟨q, 2, none⟩ = some (.string S) := (set_cell_off hwb).trans (stays_cell HB3.out hq2 i2')); (have j3 : (w3.setCell ⟨b, 0, none⟩ (.slice ao3 N ac3)).cell? ⟨ab, aoff + 1, none⟩ = some (.int .i64 0) := (set_cell_off hab).trans (stays_cell HB3.out habl ca1)); clear ho3 hg3)
        have HM4 := hid (show Mac w0 b key vv (.slice ao3 N ac3) vt { m with stack := m.stack.drop ks.length } (w3.setCell ⟨b, 0, none⟩ (.slice ao3 N ac3)) from Mac.stack (l := m.stack.drop ks.length) (HM2.out.on HB3.out) (by rw [List.length_drop, show m.stack.length - ks.length = N by omega]; simpa using HO3.out))
        obtain ⟨cs3, hcs3⟩ := (HM2.out.on HB3.out).heap
        have HO4 := hid (show (w3.setCell ⟨b, 0, none⟩ (.slice ao3 N ac3)).ownsRow w0.heap.size 57 3 (.slice (some ⟨ab, aoff, none⟩) ks.length lc) ks.length (fl encV av) from by simpa using owns_set (owns_below HO.out HB3.out) hcs3 (by decide) 0 (.slice ao3 N ac3))
        clear hcs3
        have HV4 := hid (show Vls (w3.setCell ⟨b, 0, none⟩ (.slice ao3 N ac3)) (.slice (some ⟨ab, aoff, none⟩) ks.length lc) av from Reads.own encV_len (by decide) HO4.out)
        obtain ⟨cs4, hcs4⟩ := HM4.out.heap
        have HNE := hid (owns_off HO4.out hcs4 (by decide))
        have HNE2 := hid (owns_apart HO4.out HM4.out.tl (by decide))
        clear hcs4
        generalize w3.setCell ⟨b, 0, none⟩ (.slice ao3 N ac3) = W4 at HM4 HO4 HV4 HNE HNE2 j0 j1 j2 j3 ⊢
        have HC := hid (HD.out { m with stack := m.stack.drop ks.length } (ok_drop OK.out _) _ _ W4 HM4.out h19 _ av HV4.out hal HFT.out (by rw [HAV.out]; exact ok_tops OK.out _) HNE.out HNE2.out)
        rw [show (Value.agg #[.int .i64 (o : Int), .int .i64 A, .string S]) = .agg #[.int .i64 20, .int .i64 A, .string S] by rw [h20]] at HC
        refine HC.out.mono ?_
        clear HC
        rintro e w5 hd5
        clear j0 j1 j2 j3 HNE HNE2 HV4 HO4
        cases hD : doesL key vals ((o : Int), A, S) av { m with stack := m.stack.drop ks.length } with
        | fail r =>
          rw [hD] at hd5
          obtain ⟨vo, rfl, hr, hb5⟩ := hd5
          have HP := hid (show needs ks m g = .stop r from HACT.out.trans (by rw [hD]; rfl))
          have HB5 := hid hb5
          have HR := hid hr
          have hrz : (r != 0) = true := by simpa using hr
          clear hb5 hD
          go_wp2
          go_ret2
          rw [HP.out]
          exact ⟨rfl, HR.out, HB5.out⟩
        | give out m5 =>
          rw [hD] at hd5
          obtain ⟨vo, vs5, vt5, rfl, hvo, hm5⟩ := hd5
          obtain ⟨hout, hst5⟩ := doesL_short hD
          have HP := hid (show needs ks m g = push m5 m5.stack out from HACT.out.trans (by rw [hD]; rfl))
          have HM5 := hid hm5
          have HVO := hid hvo
          have hl5 : m5.stack.length ≤ 16 := by rw [hst5]; simp; omega
          obtain ⟨oo, oc, rfl, ho1, ho2, ho3, ho4⟩ := hvo
          obtain ⟨s5, sc5, rfl⟩ := own_slice hm5.st
          clear hm5 hD hst5 ho1 ho2 ho3 ho4 HACT HD
          have hzz : ((0 : Int) != 0) = false := rfl
          go_wp2
          go_loop [4, 5, 12] (fun _ _ i => ∃ k : Nat, k ≤ out.length ∧ i = .int .i64 k ∧ Hid (∀ j, j < k → (out.getD j zV).big = false)) (fun _ _ i => out.length - (Go.RowKit.intOf i).toNat)
          case atStart => exact ⟨0, by omega, rfl, fun j hj => by omega⟩
          case round =>
            obtain ⟨k, hkn, rfl, HF2⟩ := hrel
            by_cases hko : k < out.length
            · have hd4 : decide ((k : Int) < (out.length : Int)) = true := by simp; omega
              obtain ⟨ob, ooff, rfl, hobl, hoc⟩ := HVO.out.cells (j := k) hko
              have hgd : out[k]'hko = out.getD k zV := by rw [List.getD_eq_getElem?_getD, List.getElem?_eq_getElem hko]; rfl
              have ca := hoc 0 _ (by rw [encV_tri]; rfl)
              have cb := hoc 2 _ (by rw [encV_tri]; rfl)
              simp only [Nat.add_zero] at ca
              rw [hgd] at ca cb
              have hbt := big_tri (out.getD k zV)
              clear hoc hgd
              generalize hy : out.getD k zV = y at ca cb hbt
              have HY := hid hy
              clear hy
              generalize (tri y).2.2 = ys at cb hbt
              cases ht : (tri y).1
              · rw [ht] at ca hbt
                have HF3 := hid (upto_big HF2.out (by rw [HY.out]; exact hbt))
                clear hbt ht
                go_wp2
                go_round
                case rel => exact ⟨k + 1, by omega, by go_num, HF3⟩
                case measure => simp [Go.RowKit.intOf]; omega
              · rw [ht] at ca hbt
                by_cases hys : 64 < ys.size
                · have hd5 : decide ((64 : Int) < (ys.size : Int)) = true := by simp; omega
                  have HP2 := hid (show push m5 m5.stack out = .stop 4 from if_pos (some_big hko (by rw [HY.out, hbt]; simpa using hys)))
                  clear hbt ht hys
                  go_wp2
                  go_ret2
                  rw [HP.out, HP2.out]
                  exact ⟨rfl, by decide, HM5.out.bel⟩
                · have hd5 : decide ((64 : Int) < (ys.size : Int)) = false := by simp; omega
                  have HF3 := hid (upto_big HF2.out (by rw [HY.out, hbt]; simpa using hys))
                  clear hbt ht hys
                  go_wp2
                  go_round
                  case rel => exact ⟨k + 1, by omega, by go_num, HF3⟩
                  case measure => simp [Go.RowKit.intOf]; omega
            have hd4 : decide ((k : Int) < (out.length : Int)) = false := by simp; omega
            obtain rfl : k = out.length := by omega
            have HNB := hid (nobig_all HF2.out)
            have c0 := HM5.out.cS
            by_cases hroom : 16 < m5.stack.length + out.length
            · have hd5 : decide ((16 : Int) < (m5.stack.length : Int) + (out.length : Int)) = true := by simp; omega
              have HP2 := hid (show push m5 m5.stack out = .stop 1 from (if_neg (by rw [HNB.out]; simp)).trans (if_pos hroom))
              go_wp2
              go_ret2
              rw [HP.out, HP2.out]
              exact ⟨rfl, by decide, HM5.out.bel⟩
            have hd5 : decide ((16 : Int) < (m5.stack.length : Int) + (out.length : Int)) = false := by simp; omega
            have HP2 := hid (show push m5 m5.stack out = .next { m5 with stack := out.reverse ++ m5.stack } from (if_neg (by rw [HNB.out]; simp)).trans (if_neg hroom))
            have HNO := hid (show oo = none → out.length = 0 ∧ oc = 0 from fun e => by obtain ⟨a1, a2, e1, e2, e3, e4, e5⟩ := HVO.out; cases e1; exact ⟨by rw [(e4 e).1]; rfl, (e4 e).2⟩)
            go_wp2_with (at_builtin; refine wpList_append_own_any _ rfl _ _ 55 rfl w0.heap.size 57 i0V _ 3 32 Tryz.underlying55 hiV hz0 hz1 hz2 rfl (by decide) (.slice s5 m5.stack.length sc5) m5.stack.length (fl encV m5.stack.reverse) rfl HM5.out.st oo out.length oc (fl encV out) rfl (fl_length encV_len out) HNO.out (HVO.out.news encV_len (by decide) (Below.refl _ _)) (fl_one encV_one _) (by unfold maxLen; omega) (by omega) HM5.out.bel.size ?_; (intro v6 w6 ho6 hg6); (obtain ⟨ao6, ac6, rfl⟩ := own_slice ho6); (have HO6 := hid ho6); (have HG6 := hid hg6); (have d6 : w6.cell? ⟨b, 0, none⟩ = some (.slice s5 m5.stack.length sc5) := (World.cell?_of_block (a := ⟨b, 0, none⟩) (HM5.out.heldS hg6)).trans HM5.out.cS); (have g6 : w6.frozen? ⟨b, 0, none⟩ = false := HM5.out.freeAt (HM5.out.heldS hg6) 0); clear ho6 hg6)
            go_ret2
            rw [HP.out, HP2.out]
            refine ⟨rfl, _, _, Mac.pushed (l := out.reverse ++ m5.stack) HM5.out ?_ HG6.out⟩
            rw [List.reverse_append, List.reverse_reverse, fl_append, List.length_append, List.length_reverse, Nat.add_comm out.length]
            exact HO6.out
      · have HP := hid (HFIT.out.trans (if_pos (.inr ⟨by simp only; omega, by rw [HN1.out]; exact hz⟩)))
        go_wp2_with (at_builtin; refine wpList_append_own_any _ rfl _ _ 55 rfl w0.heap.size 57 i0V _ 3 32 Tryz.underlying55 hiV hz0 hz1 hz2 rfl (by decide) (.slice none 0 0) 0 [] rfl (World.ownsRow_nil _ _ _ _) so N sc (fl encV (m.stack.drop ks.length).reverse) rfl HL.out.2.1 HL.out.2.2.1 HL.out.2.2.2 (fl_one encV_one _) (by unfold maxLen; omega) (by omega) HM2.out.bel.size ?_; (intro v3 w3 ho3 hg3); (have HB3 := hid (show Below w2.heap.size w2 w3 from ⟨hg3.os, hg3.tape, hg3.output, hg3.size, fun k hk => hg3.block k hk (by simp [Value.ownBlock])⟩)); (obtain ⟨ao3, ac3, rfl⟩ := own_slice ho3); (have HO3 := hid ho3); (have d0 := (HM2.out.on HB3.out).cS); (have g0 := (HM2.out.on HB3.out).free 0); (have j0 : (w3.setCell ⟨b, 0, none⟩ (.slice ao3 N ac3)).cell? ⟨q, 0, none⟩ = some (.int .i64 (o : Int)) := (set_cell_off hwb).trans (stays_cell HB3.out hq2 i0')); (have j1 : (w3.setCell ⟨b, 0, none⟩ (.slice ao3 N ac3)).cell? ⟨q, 1, none⟩ = some (.int .i64 A) := (set_cell_off hwb).trans (stays_cell HB3.out hq2 i1')); (have j2 : (w3.setCell ⟨b, 0, none⟩ (.slice ao3 N ac3)).cell? ⟨q, 2, none⟩ = some (.string S) := (set_cell_off hwb).trans (stays_cell HB3.out hq2 i2')); (have j3 : (w3.setCell ⟨b, 0, none⟩ (.slice ao3 N ac3)).cell? ⟨ab, aoff + 1, none⟩ = some (.int .i64 n1) := (set_cell_off hab).trans (stays_cell HB3.out habl ca1)); clear ho3 hg3)
        have HM4 := hid (show Mac w0 b key vv (.slice ao3 N ac3) vt { m with stack := m.stack.drop ks.length } (w3.setCell ⟨b, 0, none⟩ (.slice ao3 N ac3)) from Mac.stack (l := m.stack.drop ks.length) (HM2.out.on HB3.out) (by rw [List.length_drop, show m.stack.length - ks.length = N by omega]; simpa using HO3.out))
        go_quiet (fail)
        go_wp2
        go_ret2
        rw [HP.out]
        exact ⟨rfl, _, _, HM4.out.on (below_drew _ _)⟩
    have HACT := hid (HFIT.out.trans (if_neg (by rintro (h | ⟨h, _⟩) <;> (simp only at h; omega))))
    go_wp2_with (at_builtin; refine wpList_append_own_any _ rfl _ _ 55 rfl w0.heap.size 57 i0V _ 3 32 Tryz.underlying55 hiV hz0 hz1 hz2 rfl (by decide) (.slice none 0 0) 0 [] rfl (World.ownsRow_nil _ _ _ _) so N sc (fl encV (m.stack.drop ks.length).reverse) rfl HL.out.2.1 HL.out.2.2.1 HL.out.2.2.2 (fl_one encV_one _) (by unfold maxLen; omega) (by omega) HM2.out.bel.size ?_; (intro v3 w3 ho3 hg3); (have HB3 := hid (show Below w2.heap.size w2 w3 from ⟨hg3.os, hg3.tape, hg3.output, hg3.size, fun k hk => hg3.block k hk (by simp [Value.ownBlock])⟩)); (obtain ⟨ao3, ac3, rfl⟩ := own_slice ho3); (have HO3 := hid ho3); (have d0 := (HM2.out.on HB3.out).cS); (have g0 := (HM2.out.on HB3.out).free 0); (have j0 : (w3.setCell ⟨b, 0, none⟩ (.slice ao3 N ac3)).cell? ⟨q, 0, none⟩ = some (.int .i64 (o : Int)) := (set_cell_off hwb).trans (stays_cell HB3.out hq2 i0')); (have j1 : (w3.setCell ⟨b, 0, none⟩ (.slice ao3 N ac3)).cell? ⟨q, 1, none⟩ = some (.int .i64 A) := (set_cell_off hwb).trans (stays_cell HB3.out hq2 i1')); (have j2 : (w3.setCell ⟨b, 0, none⟩ (.slice ao3 N ac3)).cell? ⟨q, 2, none⟩ = some (.string S) := (set_cell_off hwb).trans (stays_cell HB3.out hq2 i2')); clear ho3 hg3)
    have HM4 := hid (show Mac w0 b key vv (.slice ao3 N ac3) vt { m with stack := m.stack.drop ks.length } (w3.setCell ⟨b, 0, none⟩ (.slice ao3 N ac3)) from Mac.stack (l := m.stack.drop ks.length) (HM2.out.on HB3.out) (by rw [List.length_drop, show m.stack.length - ks.length = N by omega]; simpa using HO3.out))
    obtain ⟨cs3, hcs3⟩ := (HM2.out.on HB3.out).heap
    have HO4 := hid (show (w3.setCell ⟨b, 0, none⟩ (.slice ao3 N ac3)).ownsRow w0.heap.size 57 3 (.slice lo ks.length lc) ks.length (fl encV av) from by simpa using owns_set (owns_below HO.out HB3.out) hcs3 (by decide) 0 (.slice ao3 N ac3))
    clear hcs3
    have HV4 := hid (show Vls (w3.setCell ⟨b, 0, none⟩ (.slice ao3 N ac3)) (.slice lo ks.length lc) av from Reads.own encV_len (by decide) HO4.out)
    obtain ⟨cs4, hcs4⟩ := HM4.out.heap
    have HNE := hid (owns_off HO4.out hcs4 (by decide))
    have HNE2 := hid (owns_apart HO4.out HM4.out.tl (by decide))
    clear hcs4
    generalize w3.setCell ⟨b, 0, none⟩ (.slice ao3 N ac3) = W4 at HM4 HO4 HV4 HNE HNE2 j0 j1 j2 ⊢
    refine (HD.out { m with stack := m.stack.drop ks.length } (ok_drop OK.out _) _ _ W4 HM4.out h19 _ av HV4.out hal HFT.out (by rw [HAV.out]; exact ok_tops OK.out _) HNE.out HNE2.out).mono ?_
    rintro e w5 hd5
    clear j0 j1 j2 HNE HNE2 HV4 HO4
    cases hD : doesL key vals ((o : Int), A, S) av { m with stack := m.stack.drop ks.length } with
    | fail r =>
      rw [hD] at hd5
      obtain ⟨vo, rfl, hr, hb5⟩ := hd5
      have HP := hid (show needs ks m g = .stop r from HACT.out.trans (by rw [hD]; rfl))
      have HB5 := hid hb5
      have HR := hid hr
      have hrz : (r != 0) = true := by simpa using hr
      clear hb5 hD
      go_wp2
      go_ret2
      rw [HP.out]
      exact ⟨rfl, HR.out, HB5.out⟩
    | give out m5 =>
      rw [hD] at hd5
      obtain ⟨vo, vs5, vt5, rfl, hvo, hm5⟩ := hd5
      obtain ⟨hout, hst5⟩ := doesL_short hD
      have HP := hid (show needs ks m g = push m5 m5.stack out from HACT.out.trans (by rw [hD]; rfl))
      have HM5 := hid hm5
      have HVO := hid hvo
      have hl5 : m5.stack.length ≤ 16 := by rw [hst5]; simp; omega
      obtain ⟨oo, oc, rfl, ho1, ho2, ho3, ho4⟩ := hvo
      obtain ⟨s5, sc5, rfl⟩ := own_slice hm5.st
      clear hm5 hD hst5 ho1 ho2 ho3 ho4 HACT HD
      have hzz : ((0 : Int) != 0) = false := rfl
      go_wp2
      go_loop [4, 5, 12] (fun _ _ i => ∃ k : Nat, k ≤ out.length ∧ i = .int .i64 k ∧ Hid (∀ j, j < k → (out.getD j zV).big = false)) (fun _ _ i => out.length - (Go.RowKit.intOf i).toNat)
      case atStart => exact ⟨0, by omega, rfl, fun j hj => by omega⟩
      case round =>
        obtain ⟨k, hkn, rfl, HF2⟩ := hrel
        by_cases hko : k < out.length
        · have hd4 : decide ((k : Int) < (out.length : Int)) = true := by simp; omega
          obtain ⟨ob, ooff, rfl, hobl, hoc⟩ := HVO.out.cells (j := k) hko
          have hgd : out[k]'hko = out.getD k zV := by rw [List.getD_eq_getElem?_getD, List.getElem?_eq_getElem hko]; rfl
          have ca := hoc 0 _ (by rw [encV_tri]; rfl)
          have cb := hoc 2 _ (by rw [encV_tri]; rfl)
          simp only [Nat.add_zero] at ca
          rw [hgd] at ca cb
          have hbt := big_tri (out.getD k zV)
          clear hoc hgd
          generalize hy : out.getD k zV = y at ca cb hbt
          have HY := hid hy
          clear hy
          generalize (tri y).2.2 = ys at cb hbt
          cases ht : (tri y).1
          · rw [ht] at ca hbt
            have HF3 := hid (upto_big HF2.out (by rw [HY.out]; exact hbt))
            clear hbt ht
            go_wp2
            go_round
            case rel => exact ⟨k + 1, by omega, by go_num, HF3⟩
            case measure => simp [Go.RowKit.intOf]; omega
          · rw [ht] at ca hbt
            by_cases hys : 64 < ys.size
            · have hd5 : decide ((64 : Int) < (ys.size : Int)) = true := by simp; omega
              have HP2 := hid (show push m5 m5.stack out = .stop 4 from if_pos (some_big hko (by rw [HY.out, hbt]; simpa using hys)))
              clear hbt ht hys
              go_wp2
              go_ret2
              rw [HP.out, HP2.out]
              exact ⟨rfl, by decide, HM5.out.bel⟩
            · have hd5 : decide ((64 : Int) < (ys.size : Int)) = false := by simp; omega
              have HF3 := hid (upto_big HF2.out (by rw [HY.out, hbt]; simpa using hys))
              clear hbt ht hys
              go_wp2
              go_round
              case rel => exact ⟨k + 1, by omega, by go_num, HF3⟩
              case measure => simp [Go.RowKit.intOf]; omega
        have hd4 : decide ((k : Int) < (out.length : Int)) = false := by simp; omega
        obtain rfl : k = out.length := by omega
        have HNB := hid (nobig_all HF2.out)
        have c0 := HM5.out.cS
        by_cases hroom : 16 < m5.stack.length + out.length
        · have hd5 : decide ((16 : Int) < (m5.stack.length : Int) + (out.length : Int)) = true := by simp; omega
          have HP2 := hid (show push m5 m5.stack out = .stop 1 from (if_neg (by rw [HNB.out]; simp)).trans (if_pos hroom))
          go_wp2
          go_ret2
          rw [HP.out, HP2.out]
          exact ⟨rfl, by decide, HM5.out.bel⟩
        have hd5 : decide ((16 : Int) < (m5.stack.length : Int) + (out.length : Int)) = false := by simp; omega
        have HP2 := hid (show push m5 m5.stack out = .next { m5 with stack := out.reverse ++ m5.stack } from (if_neg (by rw [HNB.out]; simp)).trans (if_neg hroom))
        have HNO := hid (show oo = none → out.length = 0 ∧ oc = 0 from fun e => by obtain ⟨a1, a2, e1, e2, e3, e4, e5⟩ := HVO.out; cases e1; exact ⟨by rw [(e4 e).1]; rfl, (e4 e).2⟩)
        go_wp2_with (at_builtin; refine wpList_append_own_any _ rfl _ _ 55 rfl w0.heap.size 57 i0V _ 3 32 Tryz.underlying55 hiV hz0 hz1 hz2 rfl (by decide) (.slice s5 m5.stack.length sc5) m5.stack.length (fl encV m5.stack.reverse) rfl HM5.out.st oo out.length oc (fl encV out) rfl (fl_length encV_len out) HNO.out (HVO.out.news encV_len (by decide) (Below.refl _ _)) (fl_one encV_one _) (by unfold maxLen; omega) (by omega) HM5.out.bel.size ?_; (intro v6 w6 ho6 hg6); (obtain ⟨ao6, ac6, rfl⟩ := own_slice ho6); (have HO6 := hid ho6); (have HG6 := hid hg6); (have d6 : w6.cell? ⟨b, 0, none⟩ = some (.slice s5 m5.stack.length sc5) := (World.cell?_of_block (a := ⟨b, 0, none⟩) (HM5.out.heldS hg6)).trans HM5.out.cS); (have g6 : w6.frozen? ⟨b, 0, none⟩ = false := HM5.out.freeAt (HM5.out.heldS hg6) 0); clear ho6 hg6)
        go_ret2
        rw [HP.out, HP2.out]
        refine ⟨rfl, _, _, Mac.pushed (l := out.reverse ++ m5.stack) HM5.out ?_ HG6.out⟩
        rw [List.reverse_append, List.reverse_reverse, fl_append, List.length_append, List.length_reverse, Nat.add_comm out.length]
        exact HO6.out
end Go.Proofs.YtpggfdnpbipckaaGreatDoor
