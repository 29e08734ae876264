/- Laid together: MpSmall MpAwake MpActs LJoin MpJoin MpCf MpPv. -/
import Derived.Test.YtfimoobgbodbmaaGreatDoorGMpC
import Derived.Test.YtfimoobgbodbmaaGreatDoorGMpD
import Derived.Test.YtfimoobgbodbmaaGreatDoorFEmpty
import Derived.Handy
import Derived.Test.YtfimoobgbodbmaaGreatDoorGJarg
import Derived.Test.YtfimoobgbodbmaaGreatDoorGArg
/-! awake of chapter 19's statements: the small configuration. -/
namespace Go.Proofs.YtfimoobgbodbmaaGreatDoor
open Go.RowKit Go.Lib
set_option linter.unusedVariables false
set_option maxRecDepth 100000

def baF : List KV := [(bF, n1), (aF, n2)]
def abF : List KV := [(aF, n2), (bF, n1)]
def smallJ : JobV := ⟨[baF], 1, firstP, [], firstP, 1, 1, 9, []⟩
theorem bad_firstP : bad firstP < 0 := may_all (by simp [firstP]) (by
  intro x hx
  simp only [firstP, List.mem_cons, List.mem_nil_iff, or_false] at hx
  rcases hx with rfl | rfl | rfl | rfl <;> simp [good])
theorem bad_nil : bad ([] : List Inst) < 0 := by decide
theorem smallJ_may : mayJ smallJ = true := by
  unfold mayJ smallJ
  simp only [bad_firstP, bad_nil, decide_true]
  decide
theorem smallJ_fit : JobFit smallJ := ⟨first_nums, (fun x hx => by simp [smallJ] at hx), first_nums, i64_small (by simp [smallJ]) (by simp [smallJ]), i64_small (by simp [smallJ]) (by simp [smallJ]), i64_small (by simp [smallJ]) (by simp [smallJ]), i64_small (by simp [smallJ]) (by simp [smallJ])⟩
theorem ba_srt : srt baF = abF := by decide
theorem ab_srt : srt abF = abF := by decide
theorem small_map : mapL firstP baF 9 = (baF, 0) := by
  have h1 := first_one bF n1 (by decide) (by decide)
  have h2 := first_one aF n2 (by decide) (by decide)
  have hr : mapR firstP 9 baF = 0 := by
    unfold baF
    rw [mapR_cons, h1, if_pos rfl, mapR_cons, h2, if_pos rfl]
    rfl
  have ht : mapT firstP 9 baF = baF := by
    unfold mapT baF
    rw [List.flatMap_cons, List.flatMap_cons, h1, h2]
    rfl
  unfold mapL
  rw [if_pos hr, ht, if_pos (by decide)]
theorem small_split : splitL firstP [] 9 baF = (abF, 0) := by
  unfold splitL
  rw [small_map, if_pos rfl]
  unfold combineL
  rw [if_pos (show ([] : List Inst).length = 0 from rfl), ba_srt]
theorem only_one (l : List KV) : onlyL l 1 0 = l := by
  unfold onlyL
  rw [List.filter_eq_self]
  intro x _
  have h := ofK_bd (s := x.1) (parts := 1) (by omega)
  unfold isP
  simp
  omega
theorem is_nilO (w : World) : Is w (.slice none 0 0) [] := ⟨none, 0, rfl, Nat.le_refl _, by unfold maxLen; omega, fun _ => ⟨rfl, rfl⟩, fun h => absurd rfl h⟩
def smallC : CfgV := ⟨smallJ, 1, 2, 1⟩
theorem smallC_may : mayC smallC = true := by
  unfold mayC
  rw [show smallC.job = smallJ from rfl, smallJ_may]
  decide
set_option maxHeartbeats 4000000 in
theorem small19_any (w : World) : Calls Tryz.prog 36 #[] w fun e w' => ∃ s : SlJ, e = .returned (cfgV s smallC) ∧ JobIs w' s.so s.mo s.co s.ro s.ko s.sc s.mc s.cc s.rc s.kc smallC.job ∧ Below w.heap.size w w' := by
  have h0 : ∀ o : Obj, JobIs ((((w.alloc o).alloc (.cells (icl firstP).toArray 118)).alloc (.cells (fl encP baF).toArray 105)).alloc (.cells #[.slice (some ⟨w.heap.size + 2, 0, none⟩) 2 2] 51)) (some ⟨w.heap.size + 3, 0, none⟩) (some ⟨w.heap.size + 1, 0, none⟩) none (some ⟨w.heap.size + 1, 0, none⟩) none 1 4 0 4 0 smallJ ∧
      Below w.heap.size w ((((w.alloc o).alloc (.cells (icl firstP).toArray 118)).alloc (.cells (fl encP baF).toArray 105)).alloc (.cells #[.slice (some ⟨w.heap.size + 2, 0, none⟩) 2 2] 51)) := by
    intro o
    have z1 : (w.alloc o).heap.size = w.heap.size + 1 := by simp
    have hc := Co.made firstP (w.alloc o) (by simp [firstP])
    rw [z1] at hc
    have z2 : ((w.alloc o).alloc (.cells (icl firstP).toArray 118)).heap.size = w.heap.size + 2 := by simp
    have hp := pairs_made baF ((w.alloc o).alloc (.cells (icl firstP).toArray 118)) (by simp [baF])
    rw [z2] at hp
    have hc2 := (hc.below (alloc_one _ (.cells (fl encP baF).toArray 105))).below (alloc_one _ (.cells #[.slice (some ⟨w.heap.size + 2, 0, none⟩) 2 2] 51))
    have b1 := alloc_one w o
    have b2 := below_then b1 (alloc_one _ (.cells (icl firstP).toArray 118)) b1.size
    have b3 := below_then b2 (alloc_one _ (.cells (fl encP baF).toArray 105)) b2.size
    have b4 := below_then b3 (alloc_one _ (.cells #[.slice (some ⟨w.heap.size + 2, 0, none⟩) 2 2] 51)) b3.size
    have z3 : (((w.alloc o).alloc (.cells (icl firstP).toArray 118)).alloc (.cells (fl encP baF).toArray 105)).heap.size = w.heap.size + 3 := by simp
    have hl := lis_made [.slice (some ⟨w.heap.size + 2, 0, none⟩) 2 2] [baF] (((w.alloc o).alloc (.cells (icl firstP).toArray 118)).alloc (.cells (fl encP baF).toArray 105)) (by simp) rfl fun j l hj => by
      match j, hj with
      | 0, hj => simp at hj; subst hj; exact ⟨_, rfl, hp⟩
      | j + 1, hj => simp at hj
    rw [z3] at hl
    exact ⟨⟨hl, hc2, co_nil _, hc2, is_nilO _⟩, b4⟩
  have H0 := hid h0
  clear h0
  go_enter Tryz.func36, Tryz.ntmps36
  go_wp2
  go_returns
  exact ⟨⟨_, _, none, _, none, 1, 4, 0, 4, 0⟩, rfl, (H0.out _).1, (H0.out _).2⟩


theorem small_base {W : World} (T : Tabs W) {a : Int} (h1 : 1 ≤ a) (h2 : a ≤ 2) : Base W smallC 0 a := ⟨smallC_may, smallJ_fit, T, by decide, h1, h2⟩
theorem small_R (a : Int) : (attV smallC 0 a).R = (abF, 0) := small_split
theorem small_num (a : Int) : (attV smallC 0 a).num = 1 := by
  unfold AtV.num
  rw [small_R]
  rfl
theorem small_list (a : Int) : (attV smallC 0 a).list 0 = abF := by
  unfold AtV.list
  rw [small_R]
  exact only_one abF
theorem small_cnt2 : (attV smallC 0 2).cnt 0 = 2 := by
  unfold AtV.cnt
  rw [small_list]
  decide
theorem small_cnt1 : (attV smallC 0 1).cnt 0 = 1 := by
  unfold AtV.cnt
  rw [small_list]
  decide
theorem small_counts2 : (attV smallC 0 2).counts = [2] := by
  unfold AtV.counts
  rw [small_num]
  show [(attV smallC 0 2).cnt 0] = _
  rw [small_cnt2]
theorem small_counts1 : (attV smallC 0 1).counts = [1] := by
  unfold AtV.counts
  rw [small_num]
  show [(attV smallC 0 1).cnt 0] = _
  rw [small_cnt1]
theorem small_ws2 : (attV smallC 0 2).ws0 = [newW 2 1] := by
  unfold AtV.ws0
  rw [small_num]
  show [newW ((attV smallC 0 2).cnt 0) 1] = _
  rw [small_cnt2]
theorem small_ws1 : (attV smallC 0 1).ws0 = [newW 1 1] := by
  unfold AtV.ws0
  rw [small_num]
  show [newW ((attV smallC 0 1).cnt 0) 1] = _
  rw [small_cnt1]
end Go.Proofs.YtfimoobgbodbmaaGreatDoor
/-! awake of chapter 19's statements: it is true. -/
namespace Go.Proofs.YtfimoobgbodbmaaGreatDoor
open Go.RowKit Go.Lib
set_option linter.unusedVariables false
set_option maxRecDepth 100000

theorem is_oneM (x : Int) (w : World) : Is (w.alloc (.cells #[.int .i64 x] 3)) (.slice (some ⟨w.heap.size, 0, none⟩) 1 1) [x] :=
  Is.owned (base := 0) (n := 1) ⟨rfl, .inr ⟨w.heap.size, 1, _, rfl, Nat.zero_le _, new_block _ _, Nat.le_refl _, by unfold maxLen; omega, rfl, rfl⟩⟩
set_option maxHeartbeats 8000000 in
set_option maxRecDepth 100000 in
theorem awake19 (w : World) (T : Tabs w) : Calls Tryz.prog 8 #[] w fun e w' => e = .returned (.bool true) ∧ Below w.heap.size w w' := by
  have B2 := hid (small_base T (a := 2) (by omega) (by omega))
  have B1 := hid (small_base T (a := 1) (by omega) (by omega))
  have hnot : ∀ (x : Bool) (w : World), (Op.unary .not (.bool x)).run Tryz.prog w = .ok (.bool (!x)) w := fun _ _ => rfl
  clear T
  go_enter Tryz.func8, Tryz.ntmps8
  go_wp2_with fail
  refine (small19_any w).mono ?_
  rintro e w1 ⟨s1, rfl, hj1, hb1⟩
  have HJ1 := hid hj1
  have HB1 := hid hb1
  clear hj1 hb1
  go_wp2_with fail
  refine (mpNew_any B2.out HB1.out HJ1.out).mono ?_
  rintro e w2 ⟨bm, sm, I1, rfl, hm2, hi2, hb2⟩
  have HM2 := hid hm2
  have HZ2 := hid (show ∀ g, I1 g → g < w2.heap.size from fun g hg => (hm2.bd g hg).2)
  clear hm2 hi2 hb2 HB1 HJ1
  go_wp2_with fail
  refine (small19_any w2).mono ?_
  rintro e w3 ⟨s3, rfl, hj3, hb3⟩
  have HJ3 := hid hj3
  have HM3 := hid (HM2.out.below hb3)
  have HZ3 := hid (show ∀ g, I1 g → g < w3.heap.size from fun g hg => Nat.lt_of_lt_of_le (HZ2.out g hg) hb3.size)
  clear hj3 hb3 HM2 HZ2
  go_wp2_with fail
  refine (mpNew_any B1.out HM3.out.bel HJ3.out).mono ?_
  rintro e w4 ⟨bn, sn, I2, rfl, hn4, hi4, hb4⟩
  have HN4 := hid hn4
  have HM4 := hid (HM3.out.below hb4)
  have HD4 := hid (show ∀ g, I1 g → ¬ I2 g from fun g hg h2 => by have := HZ3.out g hg; have := hi4 g h2; omega)
  clear hn4 hi4 hb4 HM3 HZ3 HJ3
  go_wp2_with fail
  refine (counts_first w4 B2.out HM4.out).mono ?_
  rintro e w6 ⟨w5, Z, v, I3, a5, c5, ⟨rfl, hs5⟩, hm5, hb6, rfl, ho6⟩
  rw [small_counts2, small_num] at ho6
  have HM6 := hid (hm5.below hb6)
  have HN6 := hid ((HN4.out.sav hs5 (fun g hg e => HD4.out bm HM4.out.inb (by rw [← show g = bm from e]; exact hg)) hm5.bel).below hb6)
  have HD6 := hid (show ∀ g, Grow I1 w4 w5 g → ¬ I2 g from fun g hg h2 => by
    rcases hg with hg | hg
    · exact HD4.out g hg h2
    · have := (HN4.out.bd g h2).2
      omega)
  have HO6 := hid (show Is w6 (.slice a5 1 c5) [2] from Is.owned ho6)
  generalize Grow I1 w4 w5 = I3 at *
  rw [small_num, small_ws2] at *
  clear hs5 hm5 hb6 ho6 HM4 HN4 HD4
  have hA2 := HO6.out.below (alloc_one w6 (.cells #[.int .i64 2] 3))
  have hM2 := is_oneM 2 w6
  have HM7 := hid (HM6.out.below (alloc_one w6 (.cells #[.int .i64 2] 3)))
  have HN7 := hid (HN6.out.below (alloc_one w6 (.cells #[.int .i64 2] 3)))
  go_wp2_with fail
  refine (sameInts_any _ _ [2] [2] _ hA2 hM2).mono ?_
  rintro e w7 ⟨rfl, n7, hw7⟩
  rw [show decide (([2] : List Int) = [2]) = true from rfl]
  have hb7 : Below (w6.alloc (.cells #[.int .i64 2] 3)).heap.size (w6.alloc (.cells #[.int .i64 2] 3)) w7 := by rw [hw7]; exact below_drew _ n7
  have HM8 := hid (HM7.out.below hb7)
  have HN8 := hid (HN7.out.below hb7)
  clear hA2 hM2 HM6 HN6 HM7 HN7 HO6 hw7 hb7
  go_wp2_with fail
  refine (counts_first w7 B1.out HN8.out).mono ?_
  rintro e w9 ⟨w8, Z2, v2, I4, a8, c8, ⟨rfl, hs8⟩, hn8, hb9, rfl, ho9⟩
  rw [small_counts1, small_num] at ho9
  have HN9 := hid (hn8.below hb9)
  have HM9 := hid ((HM8.out.sav hs8 (fun g hg e => HD6.out g hg (by rw [show g = bn from e]; exact HN8.out.inb)) hn8.bel).below hb9)
  have HD9 := hid (show ∀ g, I3 g → ¬ Grow I2 w7 w8 g from fun g hg h2 => by
    rcases h2 with h2 | h2
    · exact HD6.out g hg h2
    · have := (HM8.out.bd g hg).2
      omega)
  have HO9 := hid (show Is w9 (.slice a8 1 c8) [1] from Is.owned ho9)
  generalize Grow I2 w7 w8 = I4 at *
  rw [small_num, small_ws1] at *
  clear hs8 hn8 hb9 ho9 HM8 HN8 HD6
  have hA3 := HO9.out.below (alloc_one w9 (.cells #[.int .i64 1] 3))
  have hM3 := is_oneM 1 w9
  have HM10 := hid (HM9.out.below (alloc_one w9 (.cells #[.int .i64 1] 3)))
  have HN10 := hid (HN9.out.below (alloc_one w9 (.cells #[.int .i64 1] 3)))
  go_wp2_with fail
  refine (sameInts_any _ _ [1] [1] _ hA3 hM3).mono ?_
  rintro e w10 ⟨rfl, n10, hw10⟩
  rw [show decide (([1] : List Int) = [1]) = true from rfl]
  have hb10 : Below (w9.alloc (.cells #[.int .i64 1] 3)).heap.size (w9.alloc (.cells #[.int .i64 1] 3)) w10 := by rw [hw10]; exact below_drew _ n10
  have HM11 := hid (HM10.out.below hb10)
  have HN11 := hid (HN10.out.below hb10)
  clear hA3 hM3 HM9 HN9 HM10 HN10 HO9 hw10 hb10
  go_wp2_with fail
  refine (mpPush_any w10 B2.out.at HM11.out).mono ?_
  rintro e w12 ⟨a12, c12, ms, rfl, hms, -, hb12⟩
  have hml : ms.length = 1 := by
    have h1 : (asks ms).length = ms.length := by simp [asks]
    rw [hms] at h1
    rw [← h1]
    decide
  rw [hml]
  have HM12 := hid (HM11.out.below hb12)
  have HN12 := hid (HN11.out.below hb12)
  clear hms hml hb12 HM11 HN11
  go_wp2_with fail
  refine (mpAck_any w12 B2.out.at HM12.out 0 1 2).mono ?_
  rintro e w13 ⟨x, rfl, hm13, hx, -, hs13⟩
  have hxt : x = true := (hx 0 (newW 2 1) rfl rfl).trans (by decide)
  rw [hxt]
  have hw13 : ackWs [newW 2 1] 0 1 2 = [⟨2, 1, 1, 2⟩] := by
    unfold ackWs
    rw [if_pos (by decide)]
    show [ackW (newW 2 1) 1 2] = _
    unfold ackW
    rw [if_pos (by decide)]
    rfl
  rw [hw13] at hm13
  have HM13 := hid hm13
  have HN13 := hid (HN12.out.sav hs13 (fun g hg e => by
    obtain ⟨z, hz, rfl⟩ := e
    exact HD9.out _ (HM12.out.ins _ (.inr ⟨z, hz, .inr rfl⟩)) hg) hm13.bel)
  clear hm13 hx hs13 hw13 hxt HM12 HN12 HD9
  go_wp2_with fail
  refine (mpDone_any w13 B2.out.at HM13.out).mono ?_
  rintro e w14 ⟨rfl, hb14⟩
  rw [show doneA [⟨2, 1, 1, 2⟩] = true by decide]
  have HN14 := hid (HN13.out.below hb14)
  clear hb14 HN13 HM13
  go_wp2_with fail
  refine (mpDone_any w14 B1.out.at HN14.out).mono ?_
  rintro e w15 ⟨rfl, hb15⟩
  rw [show doneA [newW 1 1] = false by decide]
  have HB15 := hid (HN14.out.below hb15).bel
  clear hb15 HN14
  go_wp2
  go_ret
  exact ⟨rfl, HB15.out⟩
end Go.Proofs.YtfimoobgbodbmaaGreatDoor
/-! How an ack of layer 19's statements reads, and how a configuration comes in. -/
namespace Go.Proofs.YtfimoobgbodbmaaGreatDoor
open Go.RowKit Go.Lib
set_option linter.unusedVariables false
set_option maxRecDepth 100000
abbrev ActV := Int × Int × Int
def rAct : Rd ActV := rPair 1 (rInt .i64) (rPair 1 (rInt .i64) (rInt .i64))
theorem opens_act : Opens Tryz.prog 55 3 rAct :=
  opens_struct Tryz.underlying55 (by kernel_rfl) (opensF_cons rfl (by kernel_rfl) (opens_int Tryz.underlying3) (opensF_cons rfl (by kernel_rfl) (opens_int Tryz.underlying3) (opensF_last rfl (by kernel_rfl) rfl (opens_int Tryz.underlying3))))
theorem opens_acts : Opens Tryz.prog 29 1 (rSlice 3 rAct) := @opens_slice _ ⟨(0, 0, 0)⟩ _ _ _ _ _ Tryz.underlying29 (by kernel_rfl) (by decide) opens_act
theorem act_cells {w : World} {ds : List Value} {a : ActV} (hl : ds.length = 3) (h : rAct w ds a) : ds = [.int .i64 a.1, .int .i64 a.2.1, .int .i64 a.2.2] := by
  match ds, hl with
  | [x, y, z], _ =>
    obtain ⟨⟨h1, _⟩, ⟨h2, _⟩, h3, _⟩ := h
    simp at h1 h2 h3
    rw [h1, h2, h3]
/-- Acts that lie in block b, from off on. -/
def Acts (w : World) (b off : Nat) (l : List ActV) : Prop := ∀ (j : Nat) (a : ActV), l[j]? = some a → ∃ ds : List Value, ds.length = 3 ∧ rAct w ds a ∧ ∀ (k : Nat) (u : Value), ds[k]? = some u → w.cell? ⟨b, off + j * 3 + k, none⟩ = some u
theorem Acts.at {w : World} {l : List ActV} {b off : Nat} (hc : Acts w b off l) {k : Nat} (hk : k < l.length) :
    w.cell? ⟨b, off + k * 3, none⟩ = some (.int .i64 l[k].1) ∧ w.cell? ⟨b, off + k * 3 + 1, none⟩ = some (.int .i64 l[k].2.1) ∧ w.cell? ⟨b, off + k * 3 + 2, none⟩ = some (.int .i64 l[k].2.2) := by
  obtain ⟨ds, hd, hr, hu⟩ := hc k l[k] (List.getElem?_eq_getElem hk)
  have he := act_cells hd hr
  subst he
  exact ⟨hu 0 _ rfl, hu 1 _ rfl, hu 2 _ rfl⟩
/-- A configuration that comes in: its job is of 64 bits too. -/
theorem cfg_arg_fit {w : World} {cs : Array Value} {a} (hs : cs.size = 12) (h : rCfg w cs.toList a) :
    ∃ (c : CfgV) (s : SlJ), .agg cs = cfgV s c ∧ JobIs w s.so s.mo s.co s.ro s.ko s.sc s.mc s.cc s.rc s.kc c.job ∧ JobFit c.job ∧ I64 c.tries := by
  obtain ⟨l, rfl⟩ : ∃ l : List Value, cs = l.toArray := ⟨cs.toList, by simp⟩
  simp only [List.size_toArray] at hs
  match l, hs with
  | [x0, x1, x2, x3, x4, x5, x6, x7, x8, x9, x10, x11], _ =>
    obtain ⟨⟨a0, a1, a2, a3, a4, a5, a6, a7, a8⟩, a9, a10, a11⟩ := a
    obtain ⟨⟨h0, h1, h2, h3, h4, h5, h6, h7, h8⟩, h9, h10, h11⟩ := h
    have k0 : Lis w x0 a0 := Lis.arg h0
    have k2 : Co w x2 a2 := Co.arg h2
    have k3 : Co w x3 a3 := Co.arg h3
    have k4 : Co w x4 a4 := Co.arg h4
    have k8 : Is w x8 a8 := (Is.arg h8).1
    have n2 : ∀ x ∈ a2, I64 x.2.1 := code_nums (v := x2) h2
    have n3 : ∀ x ∈ a3, I64 x.2.1 := code_nums (v := x3) h3
    have n4 : ∀ x ∈ a4, I64 x.2.1 := code_nums (v := x4) h4
    have n1 : I64 a1 := wf_i64 h1.2
    have n5 : I64 a5 := wf_i64 h5.2
    have n6 : I64 a6 := wf_i64 h6.2
    have n7 : I64 a7 := wf_i64 h7.2
    have n10 : I64 a10 := wf_i64 h10.2
    have e1 : x1 = .int .i64 a1 := by simpa [rInt] using h1.1
    have e5 : x5 = .int .i64 a5 := by simpa [rInt] using h5.1
    have e6 : x6 = .int .i64 a6 := by simpa [rInt] using h6.1
    have e7 : x7 = .int .i64 a7 := by simpa [rInt] using h7.1
    have e9 : x9 = .int .i64 a9 := by simpa [rInt] using h9.1
    have e10 : x10 = .int .i64 a10 := by simpa [rInt] using h10.1
    have e11 : x11 = .int .i64 a11 := by simpa [rInt] using h11.1
    obtain ⟨so, sc, e0, -⟩ := k0.slice
    obtain ⟨mo, mc, e2⟩ := k2.form
    obtain ⟨co, cc, e3⟩ := k3.form
    obtain ⟨ro, rc, e4⟩ := k4.form
    obtain ⟨ko, kc, e8⟩ := k8.form
    subst e0 e1 e2 e3 e4 e5 e6 e7 e8 e9 e10 e11
    exact ⟨⟨⟨a0, a1, a2, a3, a4, a5, a6, a7, a8⟩, a9, a10, a11⟩, ⟨so, mo, co, ro, ko, sc, mc, cc, rc, kc⟩, rfl, ⟨k0, k2, k3, k4, k8⟩, ⟨n2, n3, n4, n1, n5, n6, n7⟩, n10⟩
end Go.Proofs.YtfimoobgbodbmaaGreatDoor
