/- One key's run: runKey of fold. -/
import Derived.Test.YtobgobmfhgagbaaGreatDoorVmAll
import Derived.Test.YtobgobmfhgagbaaGreatDoorFLook
namespace Go.Proofs.YtobgobmfhgagbaaGreatDoor
open Go.RowKit Go.Lib
set_option linter.unusedVariables false
set_option maxRecDepth 100000

theorem mayFn_is (own : Bool) : ∃ n, mayFn own = .func (.func n) #[] #[] := by cases own <;> exact ⟨_, rfl⟩
theorem owns_monoF {w : World} {base base' e s n : Nat} {v : Value} {xs : List Value} (h : w.ownsRow base e s v n xs) (hb : base' ≤ base) : w.ownsRow base' e s v n xs := by
  refine ⟨h.1, ?_⟩
  rcases h.2 with h1 | ⟨g, cap, cur, h1, h2, r⟩
  · exact .inl h1
  · exact .inr ⟨g, cap, cur, h1, by omega, r⟩
/-- What a fold answers: pairs of its own, and a number. -/
def ToldNew (w : World) (R : List KV × Int) (e : Ending) (w' : World) : Prop := ∃ x, e = .returned (.tuple #[x, .int .i64 R.2]) ∧ w'.ownsRow w.heap.size 34 2 x R.1.length (fl encP R.1) ∧ Below w.heap.size w w'
set_option maxHeartbeats 2000000 in
theorem runKey_any (own : Bool) (w : World) (v u : Value) (l : List Inst) (key : ByteArray) (vals : List ByteArray) (f : Int) (T : Tabs w) (hv : Co w v l) (hu : Txs w u vals) (hF : Fits l key vals) (hf : I64 f) :
    Calls Tryz.prog 20 #[v, .string key, u, .int .i64 f, mayFn own] w (ToldNew w (runK own l key vals f)) := by
  have HC := hid (fun v l k b c w => contains_any own v l k b c w)
  have HRn := hid (fun w T hv hu => vmRun_any w v u l key vals f T hv hu hF hf)
  have HT := hid T
  have HV := hid hv
  have HU := hid hu
  unfold runK
  generalize run l key vals f = R at HRn ⊢
  obtain ⟨ps, r, d⟩ := R
  simp only at HRn ⊢
  obtain ⟨n, hn⟩ := mayFn_is own
  rw [hn] at HC ⊢
  generalize hg : (ps.any fun x => !mayK own x key) = g
  have HG := hid hg
  generalize hq : (if g = true then (([], 6) : List KV × Int) else (ps, r)) = Q
  have HQ := hid hq
  clear hg hn T hv hu hF hq
  have hmf : ∀ (fn : Fn) (first cap : Array Value) (w : World), (Instr.makeFunc fn first cap).run Tryz.prog w = .ok (.func fn first cap) w := fun _ _ _ _ => rfl
  go_enter Tryz.func20, Tryz.ntmps20
  go_wp2_with fail
  have k1 : Below w.heap.size w (w.alloc (.cells #[.string key] 9)) := (Below.refl _ w).alloc (Nat.le_refl _) _
  have k2 : Below w.heap.size w ((w.alloc (.cells #[.string key] 9)).alloc (.cells #[.func (.func n) #[] #[]] 38)) := k1.alloc k1.size _
  refine (HRn.out _ (HT.out.on k2) (HV.out.below k2) (HU.out.below k2)).mono ?_
  rintro e w2 ⟨x, rfl, ho, hb2⟩
  have c1 := (hb2.cell (p := ⟨w.heap.size, 0, none⟩) (by simp; omega)).trans (show ((w.alloc (.cells #[.string key] 9)).alloc (.cells #[.func (.func n) #[] #[]] 38)).cell? ⟨w.heap.size, 0, none⟩ = some (.string key) by simp)
  have c2 := (hb2.cell (p := ⟨w.heap.size + 1, 0, none⟩) (by simp)).trans (show ((w.alloc (.cells #[.string key] 9)).alloc (.cells #[.func (.func n) #[] #[]] 38)).cell? ⟨w.heap.size + 1, 0, none⟩ = some (.func (.func n) #[] #[]) by simp)
  have hsz := hb2.size
  have k3 := below_then k2 hb2 k2.size
  have HO := hid (owns_monoF ho (show w.heap.size ≤ _ by simp; omega))
  have C1 := hid c1
  have C2 := hid c2
  simp only [World.alloc, Array.size_push] at hsz
  clear hb2 ho k1 k2 c1 c2 HRn HT HV HU
  go_wp2_with fail
  refine (HC.out x ps key (w.heap.size + 1) w.heap.size w2 (Reads.own encP_len (by decide) HO.out) C2.out C1.out (by omega) (by omega)).mono ?_
  rintro e w3 ⟨rfl, hb3⟩
  rw [HG.out]
  have k4 := below_then k3 hb3 k3.size
  have HO3 := hid (owns_below HO.out hb3)
  clear hb3 k3 HO HC C1 C2 HG
  cases g
  · have e := HQ.out
    rw [if_neg (by simp)] at e
    subst e
    go_wp2
    go_ret2
    exact ⟨x, rfl, HO3.out, k4⟩
  · have e := HQ.out
    rw [if_pos rfl] at e
    subst e
    go_wp2
    go_ret2
    exact ⟨_, rfl, World.ownsRow_nil _ _ _ _, k4⟩
end Go.Proofs.YtobgobmfhgagbaaGreatDoor
