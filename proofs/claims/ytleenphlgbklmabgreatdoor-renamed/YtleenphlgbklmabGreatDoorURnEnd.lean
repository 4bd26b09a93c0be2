import Derived.Test.YtleenphlgbklmabGreatDoorUTRn
import Derived.Test.YtleenphlgbklmabGreatDoorUEndA
import Derived.Test.YtleenphlgbklmabGreatDoorUPMap
import Derived.Test.YtleenphlgbklmabGreatDoorCards
import Derived.Test.YtleenphlgbklmabGreatDoorTie
set_option linter.unusedVariables false
set_option linter.unusedSimpArgs false
namespace Go.Proofs.YtleenphlgbklmabGreatDoor
open Go.RowKit

def cnO : RdO → ByteArray
  | .bad _ _ => { data := #[] }
  | .good t _ => canT t
def fwO : RdO → Int
  | .bad what _ => what
  | .good _ _ => 0
def flO : RdO → Int
  | .bad _ loc => loc
  | .good _ _ => 0
/-- what Instance answers: how many, whether none, what is wrong and where. -/
def insO : RdO → RdO → Nat × Bool × Int × Int
  | .bad what loc, _ => (0, true, what, loc)
  | .good _ _, .bad what loc => (0, true, what, loc)
  | .good tg names, .good ts _ => if (matM tg ts (List.replicate names.length none)).2 then (names.length, false, 0, 0) else (0, true, 11, 0)
def RIO : RdO → RdO → Option Addr → Option Addr → World → Prop
  | .good tg names, .good ts own, la, ta, w => (matM tg ts (List.replicate names.length none)).2 = true → ∃ ks tx, SRow w la names.length ks ∧ SRow w ta names.length tx ∧ InP names.length ks tx (fun k => names.getD k { data := #[] }) (fun k => match (matM tg ts (List.replicate names.length none)).1.getD k none with | some t => shT own t | none => { data := #[] })
  | _, _, _, _, _ => True
theorem rn_all {A : Nat → Addr} (w : World) (hG : Glb A w) : RnH w (fun s => cnO (rdO s)) (fun s => fwO (rdO s)) (fun s => flO (rdO s)) (fun s z => (insO (rdO s) (rdO z)).1) (fun s z => (insO (rdO s) (rdO z)).2.1) (fun s z => (insO (rdO s) (rdO z)).2.2.1) (fun s z => (insO (rdO s) (rdO z)).2.2.2) (fun s z => RIO (rdO s) (rdO z)) := by
  refine ⟨fun s W hs hk => (plcanon_rd s W (hG.kept hk) hs).mono (fun e w' h => ⟨?_, h.2⟩), fun s z W hs hz hk => ?_⟩
  · rw [h.1]
    cases rdO s <;> rfl
  · obtain ⟨p1, k1⟩ := rd_prog (A := A) s hs
    obtain ⟨p2, k2⟩ := rd_prog (A := A) z hz
    cases h1 : rdO s with
    | bad what loc =>
      rw [h1] at p1
      refine (plinst_bad1 (hG.kept hk) p1).mono ?_
      rintro e w' ⟨rfl, hk'⟩
      exact ⟨none, 0, none, 0, rfl, hk', trivial⟩
    | good tg names =>
      rw [h1] at p1 k1
      cases h2 : rdO z with
      | bad what loc =>
        rw [h2] at p2
        refine (plinst_bad2 (hG.kept hk) p1 p2).mono ?_
        rintro e w' ⟨rfl, hk'⟩
        exact ⟨none, 0, none, 0, rfl, hk', trivial⟩
      | good ts own =>
        rw [h2] at p2 k2
        cases hM : (matM tg ts (List.replicate names.length none)).2 with
        | false =>
          refine (plinst_no (hG.kept hk) p1 p2 k1 k2 hM).mono ?_
          rintro e w' ⟨rfl, hk'⟩
          refine ⟨none, 0, none, 0, ?_, hk', fun h => ?_⟩
          · simp only [insO, hM]
            rfl
          · rw [hM] at h
            cases h
        | true =>
          refine (plinst_yes (hG.kept hk) p1 p2 k1 k2 hM).mono ?_
          rintro e w' ⟨a, b, kv, sk, e1, e2, e3, e4, e5, e6, e7, e8⟩
          obtain ⟨a1, a2, a3, a4, a5, a6⟩ := k1
          obtain ⟨b1, b2, b3, b4, b5, b6⟩ := k2
          have hbound : ∀ i, i < names.length → (matM tg ts (List.replicate names.length none)).1.getD i none ≠ none := fun i hi => matM_occ a2 own.length ts b2 _ i hM (a5 i hi) (by simpa using hi)
          obtain ⟨hl, hP⟩ := ins_pure a3.nd e2 e3 hbound e4 e5
          rw [hl] at e6 e7
          obtain ⟨la, lc, rfl, r1⟩ := srow_of e6 (f := fun q => ⟨(sk.getD q []).toArray⟩) (fun q hq => by simp [List.getD, show q < sk.length from by omega, encStr])
          obtain ⟨ta, tc, rfl, r2⟩ := srow_of e7 (f := fun q => keyT kv (sk.getD q [])) (fun q hq => by simp [List.getD, show q < sk.length from by omega, keyV])
          refine ⟨la, lc, ta, tc, ?_, e8, fun _ => ⟨_, _, r1, r2, hP⟩⟩
          rw [e1]
          simp only [insO, hM]
          rfl
theorem can_size {t : Ty} {k : Nat} (h : FO t 0 k) (hs : sz t ≤ 120) : (canT t).size ≤ 1200 := by
  rw [canT_lets h]
  have := shT_size (lets k) 4 (by omega) (fun m hm => by
    obtain ⟨i, _, rfl⟩ := List.mem_map.1 hm
    have := letM_size i
    omega) (t := t) (by rw [lets_len]; exact h.wt)
  omega
theorem rd_pq : rdO sPQ = .good (tyPQ (.mk { data := #[] } 0 []) (.mk { data := #[] } 1 [])) [pieceP, pieceQ] := by kernel_rfl
theorem rd_qq : rdO sQQ = .good (.mk { data := #[102, 117, 110] } 0 [.mk { data := #[] } 0 [], .mk { data := #[] } 0 []]) [pieceQ] := by kernel_rfl
theorem can_qq : canT (.mk { data := #[102, 117, 110] } 0 [.mk { data := #[] } 0 [], .mk { data := #[] } 0 []]) = sAA := by kernel_rfl
end Go.Proofs.YtleenphlgbklmabGreatDoor

namespace Go.Proofs.YtleenphlgbklmabGreatDoor
open Go.RowKit

theorem rd_zero {s : ByteArray} (hs : s.size ≤ 9223372036854775807) (h : fwO (rdO s) = 0) : ∃ t names, rdO s = .good t names ∧ FO t 0 names.length ∧ sz t ≤ 120 := by
  have hok := (rd_prog (A := fun _ => ⟨0, 0, none⟩) s hs).2
  cases e : rdO s with
  | bad what loc =>
    rw [e] at h hok
    have h1 : what = 0 := h
    have h2 : 0 < what := hok
    omega
  | good t names => exact ⟨t, names, rfl, rd_fo e⟩
theorem two_rows {w : World} {la ta : Option Addr} {ks tx sh : Nat → ByteArray} {x y : ByteArray} (r1 : SRow w la 2 ks) (r2 : SRow w ta 2 tx) (hP : InP 2 ks tx (fun k => [pieceP, pieceQ].getD k { data := #[] }) sh) (h0 : sh 0 = x) (h1 : sh 1 = y) :
    ∃ g g', la = some ⟨g, 0, none⟩ ∧ ta = some ⟨g', 0, none⟩ ∧ w.cell? ⟨g, 0, none⟩ = some (.string ⟨#[112]⟩) ∧ w.cell? ⟨g, 1, none⟩ = some (.string ⟨#[113]⟩) ∧ w.cell? ⟨g', 0, none⟩ = some (.string x) ∧ w.cell? ⟨g', 1, none⟩ = some (.string y) := by
  obtain ⟨p1, p2, p3⟩ := hP
  obtain ⟨g, r1⟩ := r1
  obtain ⟨g', r2⟩ := r2
  have ep : ([pieceP, pieceQ] : List ByteArray).getD 0 { data := #[] } = pieceP := rfl
  have eq : ([pieceP, pieceQ] : List ByteArray).getD 1 { data := #[] } = pieceQ := rfl
  obtain ⟨q0, hq0, e0⟩ := p3 0 (by omega)
  obtain ⟨q1, hq1, e1⟩ := p3 1 (by omega)
  simp only [ep] at e0
  simp only [eq] at e1
  have hlt := p2 0 (by omega)
  have hb : Op.bytesLess pieceQ.toList pieceP.toList = false := by rw [ByteArray.toList_eq, ByteArray.toList_eq]; rfl
  have hd : pieceP ≠ pieceQ := by decide
  have k0 : ks 0 = pieceP ∧ ks 1 = pieceQ := by
    have c0 : q0 = 0 ∨ q0 = 1 := by omega
    have c1 : q1 = 0 ∨ q1 = 1 := by omega
    rcases c0 with rfl | rfl <;> rcases c1 with rfl | rfl
    · exact absurd (e0.symm.trans e1) hd
    · exact ⟨e0, e1⟩
    · simp only [Nat.zero_add] at hlt
      rw [e1, e0, hb] at hlt
      cases hlt
    · exact absurd (e0.symm.trans e1) hd
  have t0 := p1 0 0 (by omega) (by omega) (by simp only [ep]; exact k0.1)
  have t1 := p1 1 1 (by omega) (by omega) (by simp only [eq]; exact k0.2)
  obtain ⟨l1, l2⟩ := r1 0 (by omega)
  obtain ⟨m1, m2⟩ := r2 0 (by omega)
  have l3 := (r1 1 (by omega)).2
  have m3 := (r2 1 (by omega)).2
  rw [k0.1] at l2
  rw [k0.2] at l3
  rw [t0, h0] at m2
  rw [t1, h1] at m3
  exact ⟨g, g', l1, m1, l2, l3, m2, m3⟩
theorem renamed_any {A : Nat → Addr} (typ a b : ByteArray) (w : World) (hG : Glb A w) (h1 : typ.size ≤ 9223372036854775807) (h2 : a.size ≤ 9223372036854775807) (h3 : b.size ≤ 9223372036854775807) :
    Calls Tryz.prog 3 #[.string typ, .string a, .string b] w fun e w' => e = .returned (.bool true) ∧ Kept w w' := by
  refine renamed_walk typ a b h1 h2 h3 (rn_all w hG) (fun s => ?_) ?_ (fun h => ?_) (fun h hs => ?_) (fun ha hb lft hl => ?_)
  · show (cnO (rdO s)).size ≤ 100000
    cases e : rdO s with
    | bad what loc => exact Nat.le_trans (show ({ data := #[] } : ByteArray).size ≤ 0 by decide) (by omega)
    | good t names =>
      obtain ⟨f1, f2⟩ := rd_fo e
      exact Nat.le_trans (can_size f1 f2) (by omega)
  · simp only [rd_qq]
    exact ⟨rfl, can_qq⟩
  · cases e : rdO typ with
    | bad what loc => rfl
    | good t names =>
      simp only [e] at h
      exact absurd rfl h
  · obtain ⟨t, names, e, f1, f2⟩ := rd_zero h1 h
    simp only [e, cnO] at hs ⊢
    have hk : names.length ≤ 260 := by have := f1.sz; omega
    have ec := canT_lets f1
    rw [ec] at hs
    have e2 := rd_sh f1 hk hs
    rw [if_neg (by omega), ← ec] at e2
    have ms := match_self f1
    have hl : (lets names.length).length = names.length := lets_len _
    rw [e2]
    simp only [fwO, cnO, insO, ms, hl, if_true]
    exact ⟨trivial, trivial, trivial, trivial, trivial⟩
  · obtain ⟨tx, nx, ex, fx1, fx2⟩ := rd_zero h2 ha
    obtain ⟨ty, ny, ey, fy1, fy2⟩ := rd_zero h3 hb
    simp only [ex, ey, cnO] at hl ⊢
    have hkx : nx.length ≤ 260 := by have := fx1.sz; omega
    have hky : ny.length ≤ 260 := by have := fy1.sz; omega
    rw [arr_can fx1 hkx] at hl
    have hT : lft ++ ⟨#[32, 45, 62, 32, 40]⟩ ++ canT ty ++ ⟨#[44, 32, 91]⟩ ++ canT tx ++ ⟨#[93, 41]⟩ = shT (lets (max nx.length ny.length)) (tyPQ tx ty) := by
      rw [tyPQ_txt fx1 fy1, hl]
      unfold lftT brkT isFn sameS
      cases (tx.kind.data.toList == ({ data := #[102, 117, 110] } : ByteArray).data.toList) <;> apply ByteArray.ext <;> apply Array.toList_inj.1 <;> simp
    rw [hT]
    have hF := tyPQ_fo fx1 fy1
    have hk : max nx.length ny.length ≤ 260 := by omega
    by_cases hs : (shT (lets (max nx.length ny.length)) (tyPQ tx ty)).size ≤ 300
    · have er := rd_sh hF hk hs
      rw [er, rd_pq]
      by_cases hz : 120 < sz (tyPQ tx ty)
      · rw [if_pos hz]
        exact .inr (.inl rfl)
      · rw [if_neg hz]
        have hm := match_pq tx ty
        have hn : ([pieceP, pieceQ] : List ByteArray).length = 2 := rfl
        have hi : insO (.good (tyPQ (.mk { data := #[] } 0 []) (.mk { data := #[] } 1 [])) [pieceP, pieceQ]) (.good (tyPQ tx ty) (lets (max nx.length ny.length))) = (2, false, 0, 0) := by
          simp only [insO, hn, hm, if_true]
        rw [hi]
        refine .inr (.inr ⟨rfl, rfl, rfl, fun la ta w' hR => ?_⟩)
        simp only [RIO, hn, hm] at hR
        obtain ⟨ks, ts, r1, r2, hP⟩ := hR trivial
        refine two_rows r1 r2 hP ?_ ?_
        · show shT (lets (max nx.length ny.length)) tx = canT tx
          rw [shT_lets fx1.wt (by omega), ← canT_lets fx1]
        · show shT (lets (max nx.length ny.length)) ty = canT ty
          rw [shT_lets fy1.wt (by omega), ← canT_lets fy1]
    · have er : rdO (shT (lets (max nx.length ny.length)) (tyPQ tx ty)) = .bad 1 0 := by
        unfold rdO
        rw [if_pos (by omega)]
      rw [er, rd_pq]
      exact .inl rfl
end Go.Proofs.YtleenphlgbklmabGreatDoor

namespace Go.Proofs.YtleenphlgbklmabGreatDoor
open Go.ChangeShapes Go.WideShapes Go.ChangeAt Go.RowKit Go.ChangeMaps

def laidC : List (String × DataW Unit) := ("math/bits.deBruijn32tab", Rows.laid_math_bits_deBruijn32tab) :: ("math/bits.deBruijn64tab", Rows.laid_math_bits_deBruijn64tab) :: ("internal/strconv.uint64pow10", Rows.laid_internal_strconv_uint64pow10) :: laidS

theorem parted_rn {W : World} (h : laidMetH Tryz.prog Rows.renamedRow.laid W) : laidMet Tryz.prog laidC W ∧ handlesMet Tryz.prog [("errors.errorType", Rows.laid_errors_errorType)] W := h

theorem glb_rn {W : World} (hL : laidMetH Tryz.prog Rows.renamedRow.laid W) : ∃ A, Glb A W := by
  obtain ⟨hS0, hH⟩ := parted_rn hL
  obtain ⟨A, ⟨h1, h2⟩, c0, c1, c2, c3, c4, c5, c6, c7⟩ := of_laid hS0.tail.tail.tail
  exact ⟨A, h1, h2, c0, c1, c2, c3, c4, c5, c6, c7, handle_of hH⟩

theorem door_rn (os : Os) (args : Array Value) : laidMetH Tryz.prog Rows.renamedRow.laid ((World.doorLaid Tryz.prog 183 os).forCall (fun _ _ => 0) ⟨#[], args, []⟩).memory :=
  laidMetH_of_parts3 (fuel := 8) (laidMet_of_run' 8 (by kernel_rfl) (by kernel_rfl)) (by kernel_rfl) (by kernel_rfl)

set_option maxRecDepth 100000 in
theorem renamed_lifted (os : Os) (started : os.Started) (H : Type) (enc : TypeId × Value → H) :
    ReturnsInHanded {} Tryz.checked os 3 .any (fun w args => (Rows.renamedSpec.pre enc Tryz.prog Tryz.f3 [] false w args ∧ laidMetH Tryz.prog Rows.renamedRow.laid w) ∧ sizedMet enc Tryz.prog Tryz.f3 (OpenSpec.ofChange Rows.renamedSpec) false w args)
      (Rows.renamedSpec.post enc Tryz.prog Tryz.f3 false true false false) := by
  refine returnsInHanded_of_change_and (C := Tryz.checked) (X := fun w _ => laidMetH Tryz.prog Rows.renamedRow.laid w) (fun _ _ _ hh h => h.of_heap hh) Tryz.own started (by kernel_rfl) Tryz.func3
    (ChangeSpec.witness_shaped (enc := enc) (C := Tryz.checked) (os := os) (X := fun w _ => laidMetH Tryz.prog Rows.renamedRow.laid w) false (World.doorLaid Tryz.prog 183 os) #[.string ⟨#[]⟩, .string ⟨#[]⟩, .string ⟨#[]⟩] 8 rfl (World.shaped_of_RefB (by kernel_rfl) (by kernel_rfl)) (by kernel_rfl) (by kernel_rfl) (by kernel_rfl) (door_rn os _)) ?_
  intro W base args ds gs before hval0 hW _ _ hL _
  have hval : ∀ (j : Nat) t v, Tryz.f3.params[j]? = some t → args[j]? = some v → Value.okWide Tryz.prog W .any base t v := hval0
  have hW' := hW
  obtain ⟨p, q, hA0, hV, rfl, hfz, hnd⟩ := hW
  have hA : DataW.TrodAll enc Tryz.prog W 0 (fun _ => true) true Tryz.f3.params.toList args.toList ds p := hA0
  rw [Tryz.params3] at hA hval
  obtain ⟨v0, v1, v2, d0, d1, d2, p0, p1, p2, rfl, rfl, rfl, h0, h1, h2⟩ := trodAll_three hA
  obtain ⟨rfl, rfl⟩ := trodVars_none hV
  obtain ⟨s, rfl, rfl, rfl, hs⟩ := open_string Tryz.underlying9 (hval 0 9 v0 rfl rfl) h0
  obtain ⟨z, rfl, rfl, rfl, hz⟩ := open_string Tryz.underlying9 (hval 1 9 v1 rfl rfl) h1
  obtain ⟨y, rfl, rfl, rfl, hy⟩ := open_string Tryz.underlying9 (hval 2 9 v2 rfl rfl) h2
  obtain ⟨A, hG⟩ := glb_rn hL
  simp only [List.append_nil] at hW'
  refine (renamed_any s z y W hG (by unfold maxLen at hs; omega) (by unfold maxLen at hz; omega) (by unfold maxLen at hy; omega)).mono fun e W' ⟨he, hb⟩ => ?_
  subst he
  exact ⟨_, rfl, _, _, _, [], [], [], hW', trodAll_mk1 (shut_bool Tryz.underlying4 true), trodAll_mk3 (shut_string Tryz.underlying9 hs) (shut_string Tryz.underlying9 hz) (shut_string Tryz.underlying9 hy), rfl, hb.frame _, fun h => by cases h⟩

theorem renamed_holds : Rows.RenamedSaid :=
  OpenClaim.holds_of_wide 3 Tryz.f3 rfl rfl rfl rfl rfl rfl rfl ⟨rfl, rfl, rfl, rfl, rfl⟩ rfl rfl rfl rfl rfl (by kernel_rfl) Tryz.func3 renamed_closed
    (of_decide_eq_true (by kernel_rfl)) (by unfold Func.isWrapper; first | (rw [if_pos (by decide +kernel)]; kernel_rfl) | (rw [if_neg (by decide +kernel)]; exact ⟨rfl, rfl⟩))
    (fun os started H enc _ => renamed_lifted os started H enc)

theorem renamed_card : Rows.RenamedCardSaid :=
  Claim7.holds_tied_plain_at .later [] [.data, .data, .data, .handle, .sentinel, .sentinel, .sentinel, .sentinel, .sentinel, .sentinel, .sentinel, .sentinel] true (true, "b6faad3142fb86182aef01b8c1d309564ba5c9de8daf489d46020eb3d6aec0be") true
    renamed_holds (fun _ h => by cases h) (by kernel_rfl) (fun _ h => by cases h) renamed_row_tie rfl ⟨rfl, rfl⟩ (by kernel_rfl) rfl
    (fun f fn hf hfn => by
      obtain rfl : f = 3 := Option.some.inj ((show Tryz.prog.funcNamed "schemes/schemeskeep.Renamed" = some 3 by kernel_rfl).symm.trans hf) |>.symm
      obtain rfl : fn = Tryz.f3 := (Option.some.inj (Tryz.func3.symm.trans hfn)).symm
      exact ⟨by kernel_rfl, fun j t ht => by
        rw [Tryz.params3] at ht
        have hm : t ∈ [9, 9, 9] := by simpa using Array.mem_of_getElem? ht
        have hall : ([9, 9, 9].all fun u => !Tryz.prog.wantsStandIn u) = true := by kernel_rfl
        exact (show Tryz.prog.wantsStandIn t = false by simpa using List.all_eq_true.1 hall t hm)⟩)
    (by kernel_rfl)
#print axioms renamed_card
end Go.Proofs.YtleenphlgbklmabGreatDoor
