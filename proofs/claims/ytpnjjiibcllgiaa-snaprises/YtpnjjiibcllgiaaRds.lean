/- How cells read as plain data, by the type's shape, and how an argument is opened so: nothing of the program is in it. -/
import Derived.WalkKit
import Derived.Below
import Derived.ProofKit
import Derived.OpenShut
import Derived.Deep.Slices
namespace Go.Proofs.Ytpnjjiibcllgiaa
open Go.RowKit Go.ChangeShapes Go.WideShapes Go.ChangeAt Go.Deep
set_option linter.unusedVariables false

theorem add_flat (b off j : Nat) : (⟨b, off, none⟩ : Addr).add j = ⟨b, off + j, none⟩ := by unfold Addr.add; split <;> simp_all
/-- How cells read as a datum, in a world. -/
abbrev Rd (α : Type) := World → List Value → α → Prop
def rInt (k : IntKind) : Rd Int := fun _ cs n => cs = [.int k n] ∧ (Lit.int k n).wf = true
def rBool : Rd Bool := fun _ cs b => cs = [.bool b]
def rStr : Rd ByteArray := fun _ cs s => cs = [.string s] ∧ s.size ≤ maxLen
/-- The first n cells, and those behind them. -/
def rPair {α β : Type} (n : Nat) (R : Rd α) (S : Rd β) : Rd (α × β) := fun w cs p => R w (cs.take n) p.1 ∧ S w (cs.drop n) p.2
/-- A slice; each element has n cells. -/
def rSlice {α : Type} (n : Nat) (R : Rd α) : Rd (List α) := fun w cs l =>
  ∃ ao cap, cs = [.slice ao l.length cap] ∧ l.length ≤ cap ∧ cap ≤ maxLen ∧ (ao = none → l = [] ∧ cap = 0) ∧
    (l ≠ [] → ∃ b off, ao = some ⟨b, off, none⟩ ∧ b < w.heap.size ∧
      ∀ j a, l[j]? = some a → ∃ ds, ds.length = n ∧ R w ds a ∧ ∀ k u, ds[k]? = some u → w.cell? ⟨b, off + j * n + k, none⟩ = some u)

/-- A reading that stays while nothing old is turned. -/
def Stays {α : Type} (R : Rd α) : Prop := ∀ w w' cs a, Below w.heap.size w w' → R w cs a → R w' cs a
theorem stays_int (k : IntKind) : Stays (rInt k) := fun _ _ _ _ _ h => h
theorem stays_bool : Stays rBool := fun _ _ _ _ _ h => h
theorem stays_str : Stays rStr := fun _ _ _ _ _ h => h
theorem stays_pair {α β : Type} {n : Nat} {R : Rd α} {S : Rd β} (hR : Stays R) (hS : Stays S) : Stays (rPair n R S) := fun _ _ _ _ hb h => ⟨hR _ _ _ _ hb h.1, hS _ _ _ _ hb h.2⟩
theorem stays_slice {α : Type} {n : Nat} {R : Rd α} (hR : Stays R) : Stays (rSlice n R) := by
  intro w w' cs l hb h
  obtain ⟨ao, cap, rfl, h1, h2, h3, h4⟩ := h
  refine ⟨ao, cap, rfl, h1, h2, h3, fun hl => ?_⟩
  obtain ⟨b, off, rfl, hlt, hc⟩ := h4 hl
  refine ⟨b, off, rfl, Nat.lt_of_lt_of_le hlt hb.size, fun j a hj => ?_⟩
  obtain ⟨ds, hd, hr, hu⟩ := hc j a hj
  exact ⟨ds, hd, hR _ _ _ _ hb hr, fun k u hk => (hb.cell (p := ⟨b, off + j * n + k, none⟩) hlt).trans (hu k u hk)⟩

/-- Whatever can be read at this type has n cells, and reads so. -/
def Opens {α : Type} (P : Program) (t : TypeId) (n : Nat) (R : Rd α) : Prop :=
  ∀ (H : Type) (enc : TypeId × Value → H) (w : World) (base : Nat) (held : Bool) (fuel : Nat) (cs : List Value) (x : DataW H × List MemPlace),
    DataW.trod enc P w base (fun _ => true) held fuel t cs = some x → cs.length = n ∧ ∃ a, R w cs a

theorem opens_int {P : Program} {t : TypeId} {k : IntKind} (ht : P.underlying t = some (.int k)) : Opens P t 1 (rInt k) := by
  intro H enc w base held fuel cs x h
  obtain ⟨n, rfl, _, hw⟩ := DataW.trod_int ht h
  exact ⟨rfl, n, rfl, hw⟩
theorem opens_bool {P : Program} {t : TypeId} (ht : P.underlying t = some .bool) : Opens P t 1 rBool := by
  intro H enc w base held fuel cs x h
  obtain ⟨b, rfl, _⟩ := DataW.trod_bool ht h
  exact ⟨rfl, b, rfl⟩
theorem opens_str {P : Program} {t : TypeId} (ht : P.underlying t = some .string) : Opens P t 1 rStr := by
  intro H enc w base held fuel cs x h
  obtain ⟨s, rfl, _, hs⟩ := DataW.trod_string ht h
  exact ⟨rfl, s, rfl, hs⟩

/-- Fields from the place off on, cs.length = total. -/
def OpensF {α : Type} (P : Program) (fs : List Field) (off total : Nat) (R : Rd α) : Prop :=
  ∀ (H : Type) (enc : TypeId × Value → H) (w : World) (base : Nat) (held : Bool) (m : Nat) (cs : List Value) (xs : List (DataW H × List MemPlace)),
    cs.length = total → xs.length = fs.length → (∀ (i : Nat) (f : Field), fs[i]? = some f → DataW.trod enc P w base (fun _ => true) held m f.type ((cs.drop f.offset).take (P.cellsOf f.type)) = xs[i]?) → ∃ a, R w (cs.drop off) a

theorem opensF_last {α : Type} {P : Program} {f : Field} {off n total : Nat} {R : Rd α} (ho : f.offset = off) (hn : P.cellsOf f.type = n) (ht : total = off + n) (hR : Opens P f.type n R) : OpensF P [f] off total R := by
  intro H enc w base held m cs xs hl hx h
  have h0 := h 0 f rfl
  rw [List.getElem?_eq_getElem (by rw [hx]; simp), ho, hn] at h0
  obtain ⟨_, a, ha⟩ := hR _ _ _ _ _ _ _ _ h0
  refine ⟨a, ?_⟩
  rw [List.take_of_length_le (by rw [List.length_drop]; omega)] at ha
  exact ha
theorem opensF_cons {α β : Type} {P : Program} {f g : Field} {fs : List Field} {off n total : Nat} {R : Rd α} {S : Rd β} (ho : f.offset = off) (hn : P.cellsOf f.type = n) (hR : Opens P f.type n R)
    (hS : OpensF P (g :: fs) (off + n) total S) : OpensF P (f :: g :: fs) off total (rPair n R S) := by
  intro H enc w base held m cs xs hl hx h
  cases xs with
  | nil => simp at hx
  | cons y ys =>
    have h0 := h 0 f rfl
    rw [ho, hn] at h0
    obtain ⟨_, a, ha⟩ := hR _ _ _ _ _ _ _ _ h0
    obtain ⟨b, hb⟩ := hS H enc w base held m cs ys hl (by simpa using hx) (fun i f' hf => h (i + 1) f' hf)
    refine ⟨(a, b), ha, ?_⟩
    rw [List.drop_drop]
    exact hb
theorem opens_struct {α : Type} {P : Program} {t : TypeId} {fs : Array Field} {n : Nat} {R : Rd α} (ht : P.underlying t = some (.struct fs)) (hn : P.cellsOf t = n) (hF : OpensF P fs.toList 0 n R) : Opens P t n R := by
  intro H enc w base held fuel cs x h
  obtain ⟨xs, m, rfl, rfl, hl, hx, hf⟩ := DataW.trod_struct ht h
  obtain ⟨a, ha⟩ := hF H enc w base held m cs xs (by omega) (by simpa using hx) (fun i f hi => hf i f (by simpa using hi))
  exact ⟨by omega, a, by simpa using ha⟩
theorem opens_slice {α : Type} [Inhabited α] {P : Program} {t e : TypeId} {n : Nat} {R : Rd α} (ht : P.underlying t = some (.slice e)) (hn : P.cellsOf e = n) (hp : 0 < n) (hR : Opens P e n R) : Opens P t 1 (rSlice n R) := by
  intro H enc w base held fuel cs x h
  rcases open_slice ht h with ⟨rfl, _⟩ | ⟨a, len, cap, m, k, D, Pl, rfl, hb, hl, hm, hmm, rfl, hx⟩
  · exact ⟨rfl, [], none, 0, rfl, Nat.le_refl _, by unfold maxLen; omega, fun _ => ⟨rfl, rfl⟩, fun h => absurd rfl h⟩
  · obtain rfl : m = cap := by simpa using hmm
    rw [hn] at hx
    obtain ⟨f, hf⟩ := choose_lt (α := α) (n := len) (p := fun i y => ∃ ds, ds.length = n ∧ R w ds y ∧ ∀ q u, ds[q]? = some u → w.cell? (a.add (i * n + q)) = some u) (fun i hi => by
      obtain ⟨ds, h1, h2⟩ := hx i (by omega)
      obtain ⟨hlen, y, hy⟩ := hR _ _ _ _ _ _ _ _ h2
      obtain ⟨_, hl2, hcell⟩ := World.cells?_some h1
      refine ⟨y, ds, hlen, hy, fun q u hq => ?_⟩
      have hqn : q < n := by
        have := (List.getElem?_eq_some_iff.1 hq).1
        omega
      rw [← add_add, hcell q hqn, hq])
    have hlen : ((List.range len).map f).length = len := by simp
    refine ⟨rfl, (List.range len).map f, some a, m, by rw [hlen], by omega, hm, fun e => (by cases e), fun hne => ?_⟩
    have hpos : 0 < len := by
      rcases Nat.eq_zero_or_pos len with h0 | h0
      · subst h0; simp at hne
      · exact h0
    obtain ⟨b, off, spot⟩ := a
    obtain ⟨ds, hd, _, hu⟩ := hf 0 hpos
    have h0 := hu 0 ds[0] (List.getElem?_eq_getElem (by omega))
    have hspot : spot = none := by simpa [Addr.add] using World.cell?_spot h0
    subst hspot
    rw [add_flat] at h0
    refine ⟨b, off, rfl, World.block_lt_of_cell? w _ h0, fun j y hj => ?_⟩
    have hjl : j < len := by
      have := (List.getElem?_eq_some_iff.1 hj).1
      simpa using this
    obtain rfl : f j = y := by simpa [hjl] using hj
    obtain ⟨ds, hd, hr, hu⟩ := hf j hjl
    refine ⟨ds, hd, hr, fun k u hk => ?_⟩
    have := hu k u hk
    rw [add_flat, ← Nat.add_assoc] at this
    exact this

/-- A slice that came in as an argument, opened. -/
theorem Opens.slice {α : Type} {P : Program} {t e : TypeId} {R : Rd α} (ho : Opens P t 1 R) (ht : P.underlying t = some (.slice e)) {H : Type} {enc : TypeId × Value → H} {w : World} {base b0 : Nat} {held : Bool} {r : Reach} {v : Value} {d : DataW H} {ps : List MemPlace}
    (hval : Value.okWide P w r b0 t v) (h : DataW.Trod enc P w base (fun _ => true) held t v d ps) : ∃ a, R w [v] a := by
  obtain ⟨a, len, cap, rfl⟩ := okWide_slice ht hval
  obtain ⟨fuel, hf⟩ := h
  obtain ⟨_, x, hx⟩ := ho _ _ _ _ _ _ _ _ hf
  exact ⟨x, hx⟩
/-- A struct that came in as an argument, opened. -/
theorem Opens.agg {α : Type} {P : Program} {t : TypeId} {n : Nat} {fs : Array Field} {R : Rd α} (ho : Opens P t n R) (ht : P.underlying t = some (.struct fs)) {H : Type} {enc : TypeId × Value → H} {w : World} {base b0 : Nat} {held : Bool} {r : Reach} {v : Value} {d : DataW H} {ps : List MemPlace}
    (hval : Value.okWide P w r b0 t v) (h : DataW.Trod enc P w base (fun _ => true) held t v d ps) : ∃ cs a, v = .agg cs ∧ cs.size = n ∧ R w cs.toList a := by
  obtain ⟨cs, rfl, _⟩ := okWide_struct ht hval
  obtain ⟨fuel, hf⟩ := h
  obtain ⟨hl, x, hx⟩ := ho _ _ _ _ _ _ _ _ hf
  exact ⟨cs, x, rfl, by simpa [Value.cells] using hl, hx⟩
end Go.Proofs.Ytpnjjiibcllgiaa
