/- Put of both stages, whatever it is given; a stage that the call made. -/
import Derived.Test.YtejkboahjfcdcaaSgPut
import Derived.Test.YtejkboahjfcdcaaSgTake
namespace Go.Proofs.Ytejkboahjfcdcaa
open Go.RowKit
set_option linter.unusedVariables false

theorem putN_not {α : Type} {R : RowsS α} (h : OkS R) {k : Int × Int} {seq : Int} (ht : takesS R k seq = false) : putN R k seq = (getS R k).length := by
  unfold putN
  rw [if_neg (by rw [ht]; simp)]
  by_cases hm : maySt k = true
  · rw [if_pos hm]
  · rw [if_neg hm, (getS_nil_iff h k).2 (fun r hr e => hm (by rw [← e]; exact h.may r hr))]
    rfl
/-- What Put answers, and leaves. -/
def PutIs (B b : Nat) (mv : Value) (X : List ((Int × Int) × Pay)) (k : Int × Int) (seq : Int) (ps : List KV) (w : World) (e : Ending) (w' : World) : Prop :=
  e = .returned (.int .i64 (putN (chS X) k seq : Nat)) ∧ ∃ mv' X', Sg B b mv' X' w' ∧ chS X' = putS (chS X) k seq ps ∧ Sav (InG b mv X) w w' ∧ NextG w b mv X mv' X'
theorem put_any (B b : Nat) (mv : Value) (X : List ((Int × Int) × Pay)) (k : Int × Int) (hk : W64 k) (seq : Int) (a : Value) (ps : List KV) (w : World) (h : Sg B b mv X w) (ha : Prs w a ps) (hps : ps.length ≤ 1000) :
    Calls Try.prog 12 #[.pointer (some ⟨b, 0, none⟩), .int .i64 k.1, .int .i64 k.2, .int .i64 seq, a] w (PutIs B b mv X k seq ps w) := by
  cases ht : takesS (chS X) k seq with
  | true =>
    obtain ⟨h1, h2, h3⟩ := (takesS_iff _ _ _).1 ht
    subst h2
    refine (put_take B b mv X k hk a ps w h ha hps _ rfl h1 (by omega)).mono ?_
    rintro e w' ⟨rfl, mv', X', p1, p2, p3, p4⟩
    refine ⟨?_, mv', X', p1, ?_, p3, p4⟩
    · unfold putN
      rw [if_pos ht]
    · unfold putS
      rw [if_pos ht]
      exact p2
  | false =>
    refine (put_not B b mv X k hk seq a w h ht).mono ?_
    rintro e w' ⟨rfl, rfl⟩
    refine ⟨by rw [putN_not h.ok ht], mv, X, h, ?_, Sav.refl _ _, NextG.refl _ _ _ _⟩
    unfold putS
    rw [if_neg (by rw [ht]; simp)]
/-- A stage that was made behind B; of what was there nothing has turned. -/
structure OnG (B b : Nat) (mv : Value) (X : List ((Int × Int) × Pay)) (W w : World) : Prop where
  sg : Sg B b mv X w
  bel : Below B W w
section
variable {B b : Nat} {mv mv' : Value} {X X' : List ((Int × Int) × Pay)} {W w w' : World}
theorem OnG.turn (h : OnG B b mv X W w) (k : Sg B b mv' X' w') (hs : Sav (InG b mv X) w w') : OnG B b mv' X' W w' := ⟨k, h.bel.trans (h.sg.bel hs)⟩
theorem OnG.below (h : OnG B b mv X W w) (hb : Below w.heap.size w w') : OnG B b mv X W w' := ⟨h.sg.below hb, h.bel.trans (hb.mono h.sg.low)⟩
theorem OnG.new (W : World) : OnG W.heap.size W.heap.size (.map none) [] W (W.alloc (.cells #[.map none] 56)) := ⟨Sg.new W _ (Nat.le_refl _), alloc_one _ _⟩
end
/-- No chunk has more than n pairs. -/
def Short {α : Type} (n : Nat) (R : RowsS α) : Prop := ∀ r ∈ R, ∀ c ∈ r.2, c.length ≤ n
theorem Short.nil {α : Type} (n : Nat) : Short n ([] : RowsS α) := fun _ h => absurd h (by simp)
theorem Short.get {α : Type} {n : Nat} {R : RowsS α} (h : Short n R) (k : Int × Int) : ∀ c ∈ getS R k, c.length ≤ n := by
  by_cases e : getS R k = []
  · rw [e]; exact fun _ h => absurd h (by simp)
  · exact h _ (getS_mem e)
theorem Short.put {α : Type} {n : Nat} {R : RowsS α} (h : Short n R) (k : Int × Int) (seq : Int) {ps : List α} (hp : ps.length ≤ n) : Short n (putS R k seq ps) := by
  unfold putS
  split
  · intro r hr c hc
    rcases setS_mem hr with e | e | e
    · rw [e] at hc
      rcases List.mem_append.1 hc with hc | hc
      · exact h.get k c hc
      · rw [List.mem_singleton.1 hc]; exact hp
    · exact h r e.1 c hc
    · exact h r e.1 c hc
  · exact h
theorem Short.drop {α : Type} {n : Nat} {R : RowsS α} (h : Short n R) (s : Int) : Short n (dropS R s) := fun r hr => h r (List.mem_filter.1 hr).1
theorem flat_le {α : Type} {n : Nat} : ∀ {cs : List (List α)}, (∀ c ∈ cs, c.length ≤ n) → cs.flatten.length ≤ cs.length * n
  | [], _ => by simp
  | c :: cs, h => by
    have h1 := h c List.mem_cons_self
    have h2 := flat_le (fun x hx => h x (List.mem_cons_of_mem _ hx))
    rw [List.flatten_cons, List.length_append, List.length_cons, Nat.add_mul, Nat.one_mul]
    omega
/-- All that is kept of an attempt is no more than 800 pairs. -/
theorem Short.flat {α : Type} {R : RowsS α} (h : Short 20 R) (ho : OkS R) (k : Int × Int) : (getS R k).flatten.length ≤ 1000 := by
  have h1 := flat_le (h.get k)
  by_cases e : getS R k = []
  · rw [e]; simp
  · have h2 : (getS R k).length ≤ 40 := ho.few _ (getS_mem e)
    omega
end Go.Proofs.Ytejkboahjfcdcaa
