import Derived.Test.YtleenphlgbklmabGreatDoorXPIter
import Derived.Test.YtleenphlgbklmabGreatDoorXPSign
import Derived.Test.YtleenphlgbklmabGreatDoorXPCm
import Derived.Test.YtleenphlgbklmabGreatDoorXTBn
import Derived.Test.YtleenphlgbklmabGreatDoorXTGood
import Derived.Test.YtleenphlgbklmabGreatDoorXPDep
import Derived.Test.YtleenphlgbklmabGreatDoorXWDeep
set_option linter.unusedVariables false
set_option linter.unusedSimpArgs false
namespace Go.Proofs.YtleenphlgbklmabGreatDoor
open Go.RowKit

theorem kwIn_words (t : ByteArray) : kwIn wordsL t = (sameS t { data := #[102, 117, 110] } || (sameS t { data := #[108, 101, 116] } || (sameS t { data := #[114, 101, 99] } || (sameS t { data := #[97, 110, 100] } || (sameS t { data := #[105, 110] } || (sameS t { data := #[105, 102] } || (sameS t { data := #[116, 104, 101, 110] } || sameS t { data := #[101, 108, 115, 101] }))))))) := by
  simp [kwIn, wordsL]
set_option maxRecDepth 20000 in
theorem pkw_any (t : ByteArray) (w : World) : Calls Tryz.prog 139 #[.string t] w fun e w' => e = .returned (.bool (kwIn wordsL t)) ∧ w' = w := by
  rw [kwIn_words]
  have e : ∀ q : ByteArray, sameS t q = (t.toList == q.data.toList) := fun q => by unfold sameS; rw [ByteArray.toList_eq]
  simp only [e]
  clear e
  go_enter Tryz.func139, Tryz.ntmps139
  go_wp2
  all_goals
    go_ret
    refine ⟨?_, rfl⟩
    simp_all
set_option maxRecDepth 20000 in
set_option maxHeartbeats 1000000 in
theorem pidx_any (names : List ByteArray) (x : ByteArray) (w : World) (nv : Value) (h : w.ownsRow 0 9 1 nv names.length (names.map Value.string)) :
    Calls Tryz.prog 184 #[nv, .string x] w fun e w' => (∃ r : Int, e = .returned (.int .i64 r) ∧ decide (0 ≤ r) = names.any (fun m => sameS m x)) ∧ w' = w := by
  have h' : w.ownsRow 0 9 1 nv (names.map Value.string).length (names.map Value.string) := by rw [List.length_map]; exact h
  obtain ⟨ao, cap, rfl, hrow⟩ := row_form h'
  have hml : names.length ≤ 9223372036854775807 := by
    rcases h.2 with ⟨e1, e2⟩ | ⟨g, c', cur, e1, _, _, e4, e5, _⟩
    · omega
    · unfold maxLen at e5; omega
  rw [List.length_map] at hrow ⊢
  clear h h'
  go_enter Tryz.func184, Tryz.ntmps184
  go_wp2
  go_loop [8] (fun i => ∃ q : Nat, q ≤ names.length ∧ i = .int .i64 q ∧ (names.take q).any (fun m => sameS m x) = false) (fun i => names.length - (intOf i).toNat)
  case atStart => exact ⟨0, Nat.zero_le _, rfl, by simp⟩
  case round =>
    obtain ⟨q, hq, rfl, hno⟩ := hrel
    by_cases hlt : q < names.length
    · obtain ⟨g, rfl, hc⟩ := hrow q hlt
      have hc2 : w.cell? ⟨g, q, none⟩ = some (.string names[q]) := by rw [hc]; simp [hlt]
      have hst : Hid ((names.take (q + 1)).any (fun m => sameS m x) = sameS names[q] x) := by
        show _ = _
        rw [List.take_succ_eq_append_getElem hlt, List.any_append, hno]
        simp
      have hmem : Hid (sameS names[q] x = true → names.any (fun m => sameS m x) = true) := fun e => List.any_eq_true.2 ⟨_, List.getElem_mem hlt, e⟩
      have hS : Hid (sameS names[q] x = (x.toList == (names[q]).toList)) := by
        show _ = _
        unfold sameS
        rw [ByteArray.toList_eq, ByteArray.toList_eq, Bool.beq_comm]
      clear hc hrow hno
      generalize names[q] = y at *
      cases hb : (x.toList == y.toList)
      · go_wp2
        go_round
        case rel => exact ⟨q + 1, by omega, by go_num, by rw [hst.out, hS.out, hb]⟩
        case measure => simp [intOf]; omega
      · go_wp2
        go_ret
        exact ⟨⟨q, rfl, by rw [hmem.out (by rw [hS.out, hb])]; simp⟩, rfl⟩
    · have hq2 : q = names.length := by omega
      have hk : Hid (names.any (fun m => sameS m x) = false) := by show _ = _; rw [hq2, List.take_length] at hno; exact hno
      clear hrow hno hq2
      go_wp2
      go_ret
      exact ⟨⟨-1, rfl, by rw [hk.out]; rfl⟩, rfl⟩
theorem pcon_any (names : List ByteArray) (x : ByteArray) (w : World) (nv : Value) (h : w.ownsRow 0 9 1 nv names.length (names.map Value.string)) :
    Calls Tryz.prog 168 #[nv, .string x] w fun e w' => e = .returned (.bool (names.any (fun m => sameS m x))) ∧ w' = w := by
  have H : Hid _ := pidx_any names x w nv h
  obtain ⟨ao, cap, rfl⟩ : ∃ ao cap, nv = .slice ao names.length cap := by
    rcases h.2 with ⟨e1, e2⟩ | ⟨g, cap, cur, e1, _⟩
    · exact ⟨none, 0, by rw [e1, e2]⟩
    · exact ⟨_, cap, e1⟩
  clear h
  go_enter Tryz.func168, Tryz.ntmps168
  go_wp2_with fail
  refine Calls.mono H.out ?_
  rintro e w' ⟨⟨r, rfl, hr⟩, hw⟩
  rw [hw]
  have HR : Hid _ := hr
  clear H hw hr
  go_wp2
  go_ret
  exact ⟨by rw [← HR.out]; rfl, rfl⟩
end Go.Proofs.YtleenphlgbklmabGreatDoor

namespace Go.Proofs.YtleenphlgbklmabGreatDoor
open Go.RowKit

def isNameF (t : ByteArray) : Bool := if t.size = 0 then false else if 8 < t.size then false else if lowI (chr t 0) then (if run lfI t 0 = t.size then !(kwIn wordsL t) else false) else false
theorem tl_empty (t : ByteArray) : (t.toList == []) = decide (t.size = 0) := by
  rw [ByteArray.toList_eq]
  have e : t.data.toList.length = t.size := by rw [Array.length_toList]; rfl
  cases h : t.data.toList with
  | nil =>
    rw [h] at e
    have : t.size = 0 := by simpa using e.symm
    rw [this]
    rfl
  | cons a l =>
    rw [h] at e
    have : ¬ t.size = 0 := by rw [← e]; simp
    rw [decide_eq_false this]
    rfl
set_option maxRecDepth 20000 in
set_option maxHeartbeats 1000000 in
theorem isname_any (t : ByteArray) (w : World) (ht : t.size ≤ 1000000) : Calls Tryz.prog 101 #[.string t] w fun e w' => e = .returned (.bool (isNameF t)) ∧ w' = w := by
  have he := tl_empty t
  unfold isNameF
  by_cases h0 : t.size = 0
  · simp only [h0, if_true]
    rw [h0] at he
    simp only [decide_true] at he
    go_enter Tryz.func101, Tryz.ntmps101
    go_wp2
    go_ret
    exact ⟨rfl, rfl⟩
  · simp only [h0, if_false]
    simp only [h0, decide_false] at he
    by_cases h8 : 8 < t.size
    · simp only [h8, if_true]
      have h9 : ¬ (t.size : Int) ≤ 8 := by omega
      go_enter Tryz.func101, Tryz.ntmps101
      go_wp2
      go_ret
      exact ⟨rfl, rfl⟩
    · simp only [h8, if_false]
      have h9 : (t.size : Int) ≤ 8 := by omega
      have HL : Hid _ := fun c => pletter_any c w
      have hp : 0 < t.size := by omega
      have hc : ((t[0]'hp).toNat : Int) = chr t 0 := by simp [chr, hp]
      have HD : Hid _ := lead_ld t (by omega) w
      have HW : Hid _ := pkw_any t w
      cases hl : lowI (chr t 0) with
      | false =>
        simp only [Bool.false_eq_true, if_false]
        go_enter Tryz.func101, Tryz.ntmps101
        go_wp2_with fail
        refine Calls.mono (HL.out _) ?_
        rintro e w' ⟨rfl, hww⟩
        rw [hww, hl]
        clear hww w' HL hc
        go_wp2
        go_ret
        exact ⟨rfl, rfl⟩
      | true =>
        simp only [if_true]
        by_cases hr : run lfI t 0 = t.size
        · simp only [hr, if_true]
          rw [hr] at HD
          go_enter Tryz.func101, Tryz.ntmps101
          go_wp2_with fail
          refine Calls.mono (HL.out _) ?_
          rintro e w' ⟨rfl, hww⟩
          rw [hww, hl]
          clear hww w' HL hc
          go_wp2_with fail
          refine Calls.mono HD.out ?_
          rintro e w' ⟨rfl, hww⟩
          rw [hww]
          clear hww w' HD
          go_wp2_with fail
          refine Calls.mono HW.out ?_
          rintro e w' ⟨rfl, hww⟩
          rw [hww]
          clear hww w' HW
          go_wp2
          go_ret
          exact ⟨rfl, rfl⟩
        · simp only [hr, if_false]
          have hr2 : ¬ ((run lfI t 0 : Nat) : Int) = (t.size : Int) := by omega
          go_enter Tryz.func101, Tryz.ntmps101
          go_wp2_with fail
          refine Calls.mono (HL.out _) ?_
          rintro e w' ⟨rfl, hww⟩
          rw [hww, hl]
          clear hww w' HL hc
          go_wp2_with fail
          refine Calls.mono HD.out ?_
          rintro e w' ⟨rfl, hww⟩
          rw [hww]
          clear hww w' HD
          go_wp2
          go_ret
          exact ⟨rfl, rfl⟩
end Go.Proofs.YtleenphlgbklmabGreatDoor

namespace Go.Proofs.YtleenphlgbklmabGreatDoor
open Go.RowKit

/-- none was found to be another. -/
def AR (σ : St) : Prop := ∀ (i : Nat) (nd : Nd), σ[i]? = some nd → nd.s = none
theorem SX.sw {w : World} {ad : List Nat} {σ : St} (h : SX w ad σ) (ha : AR σ) : SW w ad σ := by
  obtain ⟨τ, h1, h2⟩ := h
  have : τ = σ := by
    apply List.ext_getElem?
    intro i
    cases hi : σ[i]? with
    | none =>
      rw [List.getElem?_eq_none_iff] at hi ⊢
      rw [h2.len]
      exact hi
    | some nd =>
      have hs := ha i nd hi
      obtain ⟨nk, s⟩ := nd
      simp only at hs
      subst hs
      exact h2.root hi
  rw [← this]
  exact h1
theorem SW.sx {w : World} {ad : List Nat} {σ : St} (h : SW w ad σ) : SX w ad σ := ⟨σ, h, Ev.refl _⟩
theorem AR.ws {σ : St} (h : AR σ) : WS σ := fun i nk r hi => by
  have := h i _ hi
  simp at this
theorem AR.add {σ : St} (h : AR σ) {u : St} (hu : ∀ nd, nd ∈ u → nd.s = none) : AR (σ ++ u) := fun i nd hi => by
  by_cases e : i < σ.length
  · rw [List.getElem?_append_left e] at hi
    exact h i nd hi
  · rw [List.getElem?_append_right (by omega)] at hi
    exact hu nd (List.mem_of_getElem? hi)
theorem PTyR.ar {w : World} {vb : List Nat} {lo hi : Nat} {t : Ty} {v : Value} (h : PTyR w vb lo hi t v) : ∀ (vs : Nat) (τ : St), AR τ → AR (addT vs t τ).2 := by
  induction h with
  | var n b lo hi h1 hb => intro vs τ ha; rw [addT_var]; exact ha
  | base kd lo hi h1 hk =>
    intro vs τ ha
    rcases hk with rfl | rfl
    · rw [addT_int]; exact ha
    · rw [addT_bool]; exact ha
  | list a b p lo m hi hb ha' h1 h2 ih => intro vs τ ha; rw [addT_list]; exact (ih vs τ ha).add (by simp)
  | pair a c b p q lo m k hi hb ha' hc h1 h2 ih ih2 => intro vs τ ha; rw [addT_pair]; exact (ih2 vs _ (ih vs τ ha)).add (by simp)
  | fn a c b p q lo m k hi hb ha' hc h1 h2 ih ih2 => intro vs τ ha; rw [addT_fn]; exact (ih2 vs _ (ih vs τ ha)).add (by simp)
theorem vrs_ar (names : List ByteArray) : ∀ nd, nd ∈ vrs names → nd.s = none := by
  intro nd h
  simp only [vrs, List.mem_map] at h
  obtain ⟨n, _, rfl⟩ := h
  rfl
theorem AR.mark {σ : St} (h : AR σ) (r : TR) : AR (markF σ r) := by
  unfold markF
  split
  · split
    · rename_i i _ nm g hi
      intro j nd hj
      by_cases e : i = j
      · subst e
        rw [List.getElem?_set_self (List.getElem?_eq_some_iff.1 hi).1] at hj
        simp only [Option.some.injEq] at hj
        rw [← hj]
      · rw [List.getElem?_set_ne e] at hj
        exact h j nd hj
    · exact h
  · exact h
theorem AR.gen : ∀ (n : Nat) {σ τ : St} {r : TR} {bd : List TR}, AR σ → genF n σ r bd = some τ → AR τ := by
  intro n
  induction n with
  | zero => intro σ τ r bd _ h; simp [genF] at h
  | succ n ih =>
    intro σ τ r bd h hs
    simp only [genF, Option.bind_eq_some_iff] at hs
    obtain ⟨r0, _, hs⟩ := hs
    split at hs
    · simp only [Option.some.injEq] at hs
      exact hs ▸ h
    · split at hs
      · simp only [Option.some.injEq] at hs
        exact hs ▸ h.mark _
      · simp only [Option.bind_eq_some_iff] at hs
        obtain ⟨ks, _, hs⟩ := hs
        split at hs
        · simp only [Option.some.injEq] at hs
          exact hs ▸ h
        · exact ih h hs
        · simp only [Option.bind_eq_some_iff] at hs
          obtain ⟨σ1, h1, hs⟩ := hs
          exact ih (ih h h1) hs
        · simp at hs
/-- a type that was read joins the store, behind what lies there. -/
theorem adopt_sx {w : World} {ad : List Nat} {σ : St} (hs : SW w ad σ) {vb : List Nat} {lo hi : Nat} {t : Ty} {v : Value} {names : List ByteArray} (h : PTyR w vb lo hi t v) (hn : NB w vb names) (hd : vb.Nodup) (hfr : ∀ c, c ∈ vb → lo ≤ c) (had : ∀ c, c ∈ ad → c < lo) :
    ∃ u, SW w (ad ++ u) (addT σ.length t (σ ++ vrs names)).2 ∧ RV (ad ++ u) (addT σ.length t (σ ++ vrs names)).1 v ∧ ∀ c, c ∈ u → lo ≤ c := by
  have h1 := SW.vars names hs hn.1 hn.2 hd (fun c hc z => by have := hfr c hc; have := had c z; omega)
  obtain ⟨bl, s1, r1, hbl⟩ := SW.adopt h σ.length (ad ++ vb) (σ ++ vrs names) h1 (fun n b hb => by rw [← hs.len, List.getElem?_append_right (by omega)]; simpa using hb) (fun c hc => by
    simp at hc
    rcases hc with hc | hc
    · exact .inr (had c hc)
    · left
      obtain ⟨j, hj, rfl⟩ := List.getElem_of_mem hc
      have := hn.2 j (hn.1 ▸ hj)
      have e : vb.getD j 0 = vb[j] := by simp [List.getD, hj]
      rw [e] at this
      exact ⟨_, _, this⟩)
  refine ⟨vb ++ bl, by rw [← List.append_assoc]; exact s1, by rw [← List.append_assoc]; exact r1, ?_⟩
  intro c hc
  simp at hc
  rcases hc with hc | hc
  · exact hfr c hc
  · exact (hbl c hc).1
/-- parseType, where the text is a type. -/
theorem rd_good {A : Nat → Addr} {s : ByteArray} {t : Ty} {names : List ByteArray} (hr : rdO s = .good t names) (w : World) (hG : Glb A w) :
    Calls Tryz.prog 35 #[.string s] w fun e w' => Kept w w' ∧ ∃ T u vb, e = .returned (.tuple #[.iface T u, .nilIface]) ∧ PTyR w' vb w.heap.size w'.heap.size t (.iface T u) ∧ vb.Nodup ∧ NB w' vb names ∧ (∀ c, c ∈ vb → w.heap.size ≤ c) := by
  unfold rdO at hr
  by_cases hs : 300 < s.size
  · rw [if_pos hs] at hr
    cases hr
  · rw [if_neg hs] at hr
    have hs : s.size ≤ 300 := by omega
    have hE : PEnv s tyWords (lexT s) := ⟨hs, tyWordsOk, by unfold lexT; rw [kinds_same]⟩
    cases hM : arrowM (lexT s) (2 * (lexT s).length + 2) [] 0 (-1) with
    | none => rw [hM] at hr; cases hr
    | some q =>
      obtain ⟨t', names', K, B⟩ := q
      rw [hM] at hr
      simp only at hr
      split at hr
      · cases hr
      · rename_i hF
        split at hr
        · cases hr
        · rename_i hd
          simp only [RdO.good.injEq] at hr
          obtain ⟨rfl, rfl⟩ := hr
          refine (ptype_any hE w hG _ t' names' K B hM).mono ?_
          rintro e w' ⟨hk, h⟩
          rcases h with ⟨b, l, e1, _⟩ | ⟨_, e2, _⟩ | ⟨_, _, v, vb, e2, e3, e4, e5, e6⟩
          · omega
          · omega
          · obtain ⟨T, u, rfl⟩ := e3.iface
            exact ⟨hk, T, u, vb, e2, e3, e5, e6, fun c hc => (e4 c hc).2⟩
/-- the environment's types, one after another: where all are good. -/
def gvF : List (ByteArray × ByteArray) → Gv → St → Option (Gv × St)
  | [], gv, σ => some (gv, σ)
  | (n, ty) :: rest, gv, σ => if isNameF n && (findG n gv).isNone then match rdO ty with
    | .good t names => (genF 500 (addT σ.length t (σ ++ vrs names)).2 (addT σ.length t (σ ++ vrs names)).1 []).bind fun σ2 => gvF rest (gv ++ [(n, (addT σ.length t (σ ++ vrs names)).1)]) σ2
    | _ => none
    else none
theorem put_gm {w : World} {gm : Nat} {ad : List Nat} {g : Gv} {σ : St} (hs : SX w ad σ) (h : GM w gm ad g) {n : ByteArray} {r : TR} {v : Value} (hv : RV ad r v) (hn : findG n g = none) :
    ∃ w', (Instr.mapUpdate 166 (.map (some gm)) (.string n) v).run Tryz.prog w = .ok () w' ∧ GM w' gm ad (g ++ [(n, r)]) ∧ SX w' ad σ ∧ Kt [] (fun q => q = gm) w w' := by
  obtain ⟨l, h1, h2⟩ := h
  have hf := find_gs n l 0
  rw [(h2.look (n := n) 0).2 hn] at hf
  have hc : (Instr.checkKey false 10000 9 (.string n)).run Tryz.prog w = .ok () w := MapKept.run_checkKey Tryz.underlying9 (by simp [MapKept.IsKey]) false 9999
  have e : (gE l 0).toArray.push { key := .string n, val := v, born := l.length } = (gE (l ++ [(n, v)]) 0).toArray := by
    rw [gE_snoc]
    simp
  refine ⟨mapSet w gm (.map (gE (l ++ [(n, v)]) 0).toArray (l.length + 1)), ?_, ⟨l ++ [(n, v)], ?_, h2.snoc hv⟩, hs.mapSet h1 _, Kt.mapset h1 _⟩
  · rw [← e]
    simp [mapSet, Instr.mapUpdate, run_underlying Tryz.underlying166, MapKept.run_getObj_map h1, hc, MapKept.run_findKey Tryz.underlying9 hf, MapKept.run_setObj_map _ h1, Result.andThen]
  · rw [mapSet_same _ _ _ (lt_of_block h1)]
    simp
theorem Tryz.mkG (w : World) : (Instr.makeMap 166 none).run Tryz.prog w = .ok (.map (some w.heap.size)) (w.alloc (.map #[] 0)) := by kernel_rfl
theorem GM.none (w : World) (ad : List Nat) : GM (w.alloc (.map #[] 0)) w.heap.size ad [] := ⟨[], heap_alloc_new _ _, trivial⟩
theorem perm_sorted_eq {l m : List (List UInt8)} (h : l.Perm m) (hl : l.Pairwise (fun x y => decide (x ≤ y) = true)) (hm : m.Pairwise (fun x y => decide (x ≤ y) = true)) : l = m :=
  List.Perm.eq_of_pairwise (fun a b _ _ h1 h2 => List.le_antisymm (of_decide_eq_true h1) (of_decide_eq_true h2)) hl hm h
theorem SM.at {w : World} {mb : Nat} {kv : List (ByteArray × ByteArray)} (h : SM w mb kv) {n ty : ByteArray} (hm : (n, ty) ∈ kv) : (Instr.lookup 60 (.map (some mb)) (.string n) false).run Tryz.prog w = .ok (.agg #[.string ty]) w := by
  have := run_tlook1 60 Tryz.underlying60 w mb kv n h
  rw [this]
  obtain ⟨j, hj, e⟩ := List.getElem_of_mem hm
  have : kv.findIdx? (fun x => sameS x.1 n) = some j := by
    rw [List.findIdx?_eq_some_iff_getElem]
    refine ⟨hj, (sameS_iff _ _).2 (by rw [e]), ?_⟩
    intro i hi z
    have z := (sameS_iff _ _).1 z
    have := (List.pairwise_iff_getElem.1 h.nd) i j (by simp; omega) (by simpa using hj) hi
    simp at this
    rw [e] at this
    exact this z
  rw [this]
  simp [kAt, List.getD, hj, e]
end Go.Proofs.YtleenphlgbklmabGreatDoor

namespace Go.Proofs.YtleenphlgbklmabGreatDoor
open Go.RowKit

theorem add_none (g q : Nat) : ((⟨g, 0, none⟩ : Addr).add q) = ⟨g, q, none⟩ := by unfold Addr.add; split <;> simp_all
theorem Kt.keptBy {w w2 wr : World} {S : Nat → Prop} (h : Kept w w2) (k : Kt [] S w2 wr) (hS : ∀ q, S q → w.heap.size ≤ q) : Kept w wr := ⟨k.os.trans h.os, k.output.trans h.output, Nat.le_trans h.size k.size, fun q hq => by
  have e : w2.heap[q]? = some (w2.heap[q]'(Nat.lt_of_lt_of_le hq h.size)) := by simp
  rw [← h.block q hq, e]
  exact k.blk0 q _ e (fun z => by have := hS q z; omega) (by simp)⟩
/-- blocks that are new are no part of what was kept. -/
theorem Kt.fresh {w wr wx : World} {ad : List Nat} {S : Nat → Prop} (h : Kt [] S w wr) (k : Kt ad (fun _ => False) wr wx) (ha : ∀ q, q ∈ ad → w.heap.size ≤ q) : Kt [] S w wx := ⟨k.os.trans h.os, k.output.trans h.output, Nat.le_trans h.size k.size, fun q o hq hs ht => k.blk0 q o (h.blk0 q o hq hs ht) id (fun _ z => by have := ha q z; have := lt_of_block hq; omega)⟩
set_option maxRecDepth 20000 in
set_option maxHeartbeats 4000000 in
theorem given_sx {A : Nat → Addr} {w : World} {em : Nat} {kv kvs : List (ByteArray × ByteArray)} {gv : Gv} {σ : St} (hG : Glb A w) (hS : SM w em kv) (hl : kv.length ≤ 1000) (hsz : ∀ y, y ∈ kv → y.1.size ≤ 1000) (hp : kvs.Perm kv) (hso : (kvs.map fun y => y.1.data.toList).Pairwise (fun x y => decide (x ≤ y) = true)) (h : gvF kvs [] [] = some (gv, σ)) :
    Calls Tryz.prog 71 #[.map (some em)] w fun e w' => ∃ gm ad, e = .returned (.tuple #[.agg #[.pointer none, .map (some gm)], .nilIface]) ∧ SX w' ad σ ∧ AR σ ∧ GM w' gm ad gv ∧ (∀ a, a ∈ ad → w.heap.size ≤ a) ∧ Kept w w' := by
  have m1 := Tryz.mkG (w.alloc (.cells #[.pointer none, .map none] 168))
  have hk0 : Kept w ((w.alloc (.cells #[.pointer none, .map none] 168)).alloc (.map #[] 0)) := (Kept.alloc _ _).trans (Kept.alloc _ _)
  have hb0 : ((w.alloc (.cells #[.pointer none, .map none] 168)).alloc (.map #[] 0)).heap[w.heap.size]? = some (.cells #[.pointer none, .map none] 168 (0, 0)) := (Kept.alloc _ _).blk (heap_alloc_new _ _)
  have hg0 := GM.none (w.alloc (.cells #[.pointer none, .map none] 168)) []
  have hz0 : (w.alloc (.cells #[.pointer none, .map none] 168)).heap.size = w.heap.size + 1 := by simp
  rw [hz0] at hg0 m1
  go_enter Tryz.func71, Tryz.ntmps71
  go_wp2_with fail
  clear m1 hz0
  generalize (w.alloc (.cells #[.pointer none, .map none] 168)).alloc (.map #[] 0) = W at *
  have hS0 : SM W em kv := ⟨hk0.blk hS.mp, hS.nd⟩
  have HK : Hid _ := keys_any (some em) W
  have HSO : Hid _ := sorted_some hS0 hl (fun y hy => by have := hsz y hy; unfold maxLen; omega)
  have HG0 : Hid _ := hg0
  have HK0 : Hid _ := hk0
  have HB0 : Hid _ := hb0
  clear hg0 hk0 hb0
  refine Calls.mono HK.out ?_
  rintro e w2 ⟨rfl, hw2⟩
  rw [hw2]
  clear HK hw2 w2
  go_wp2_with fail
  refine Calls.mono HSO.out ?_
  rintro e w2 ⟨v, sk, rfl, hpp, hpo, hrow, hk2⟩
  have hk2 : Kept W w2 := (Kept.alloc _ _).trans hk2
  have hsk : sk = kvs.map fun y => y.1.data.toList := perm_sorted_eq (hpp.trans ((hp.map _).symm)) hpo hso
  subst hsk
  obtain ⟨ao, cap, rfl⟩ : ∃ ao cap, v = .slice ao kvs.length cap := by
    rcases hrow.2 with ⟨rfl, q⟩ | ⟨g, cap, cur, rfl, _⟩
    · exact ⟨none, 0, by rw [List.length_map] at q; rw [q]⟩
    · exact ⟨_, _, by rw [List.length_map]⟩
  obtain ⟨g, HR⟩ : ∃ g, Hid (∀ (q : Nat) (y : ByteArray × ByteArray), kvs[q]? = some y → ao = some ⟨g, 0, none⟩ ∧ ∃ cs, w2.heap[g]? = some (.cells cs 9 (0, 0)) ∧ cs[q]? = some (.string y.1)) := by
    rcases hrow.2 with ⟨e1, e2⟩ | ⟨g, cap', cur, e1, _, hg, hcs⟩
    · refine ⟨0, fun q x hx => ?_⟩
      have := (List.getElem?_eq_some_iff.1 hx).1
      rw [List.length_map] at e2
      omega
    · simp only [Value.slice.injEq] at e1
      refine ⟨g, fun q y hy => ⟨e1.1, _, hg, ?_⟩⟩
      have h1 := World.ownsRow.cells hrow (g := g) (by rw [e1.1]; rfl) q (encStr y.1.data.toList) (by rw [List.getElem?_map, List.getElem?_map, hy]; rfl)
      rw [add_none] at h1
      simp only [World.cell?, hg] at h1
      have e4 : encStr y.1.data.toList = .string y.1 := by
        show Value.string ⟨y.1.data.toList.toArray⟩ = _
        rw [Array.toArray_toList]
      rw [e4] at h1
      exact h1
  have hkl : kvs.length ≤ 1000 := by rw [hp.length_eq]; exact hl
  have HH : Hid _ := h
  have HP : Hid _ := hp
  have HSM : Hid _ := (⟨hk2.blk hS0.mp, hS0.nd⟩ : SM w2 em kv)
  have HEM : Hid (¬ em = w.heap.size + 1) := fun z => by have := lt_of_block hS.mp; omega
  have HG3 : Hid _ := GM.kt HG0.out (Kt.of_kept (ad := []) (S := fun _ => False) hk2) id
  have HG2 : Hid _ := GM.kt HG0.out (Kt.of_kept (ad := []) (S := fun _ => False) hk2) id
  have HKW : Hid _ := HK0.out.trans hk2
  have HB2 : Hid _ := hk2.blk HB0.out
  have HGL : Hid _ := hG
  have HSZ : Hid _ := hsz
  have HWZ : Hid _ := hk2.size
  have HWS : Hid (w.heap.size < W.heap.size) := lt_of_block HB0.out
  clear hrow hpp hpo hso hk2 hS0 hS h hp HSO HG0 HK0 HB0 hG hsz hl
  go_wp2_with fail
  go_loopw [14] (fun i wr => ∃ (q : Nat) (gq : Gv) (σq : St) (adq : List Nat), q ≤ kvs.length ∧ i = .int .i64 q ∧ Hid (gvF (kvs.drop q) gq σq = some (gv, σ)) ∧ Hid (SX wr adq σq) ∧ Hid (AR σq) ∧ Hid (GM wr (w.heap.size + 1) adq gq) ∧ Hid (∀ a, a ∈ adq → w2.heap.size ≤ a) ∧ Hid (Kt [] (fun q => q = w.heap.size + 1) w2 wr)) (fun i _ => kvs.length - (intOf i).toNat)
  case atStart => exact ⟨0, [], [], [], Nat.zero_le _, rfl, HH.out, SW.sx ⟨rfl, List.nodup_nil, fun i nk s b hi => by simp at hi⟩, fun i nd hi => by simp at hi, HG2.out, by intro a ha; simp at ha, Kt.refl _ _ _⟩
  case round =>
    clear HH HG2
    obtain ⟨q, gq, σq, adq, hq, rfl, HV, HX, HAR, HGM, HAD, HKT⟩ := hrel
    by_cases hlt : q < kvs.length
    · obtain ⟨⟨n, ty⟩, hy⟩ : ∃ y, kvs[q]? = some y := ⟨kvs[q], by simp [hlt]⟩
      obtain ⟨rfl, cs, hg, hcq⟩ := HR.out q _ hy
      have hdr : kvs.drop q = (n, ty) :: kvs.drop (q + 1) := by
        rw [List.drop_eq_getElem_cons hlt]
        congr 1
        rw [List.getElem?_eq_getElem hlt] at hy
        simpa using hy
      have hmem : (n, ty) ∈ kv := HP.out.mem_iff.1 (List.mem_of_getElem? hy)
      have hv := HV.out
      rw [hdr] at hv
      simp only [gvF] at hv
      split at hv
      · rename_i hnm
        simp only [Bool.and_eq_true, Option.isNone_iff_eq_none] at hnm
        split at hv
        · rename_i t names hrd
          simp only [Option.bind_eq_some_iff] at hv
          obtain ⟨σ2, hgen, hv⟩ := hv
          have hgg : ¬ g = w.heap.size + 1 := fun z => by
            obtain ⟨l, hl1, _⟩ := HG3.out
            rw [← z, hg] at hl1
            cases hl1
          have hgr := HKT.out.blk g _ hg hgg (by
            rintro ⟨cs', e, f, he, ht⟩
            simp only [Obj.cells.injEq] at he
            obtain ⟨_, rfl, _⟩ := he
            rcases ht with e | e | e | e <;> cases e)
          have hc : wr.cell? ⟨g, q, none⟩ = some (.string n) := by simp [World.cell?, hgr, hcq]
          have HN : Hid _ := isname_any n wr (by have := HSZ.out _ hmem; simp at this; omega)
          rw [hnm.1] at HN
          have hSM : SM wr em kv := ⟨HKT.out.blk em _ HSM.out.mp HEM.out (by rintro ⟨cs', e, f, he, _⟩; cases he), HSM.out.nd⟩
          have hlk := hSM.at hmem
          have hfl := Tryz.fldT ty wr
          have hkw : Kept w wr := Kt.keptBy HKW.out HKT.out (fun q z => by have z : q = w.heap.size + 1 := z; omega)
          have HPT : Hid _ := rd_good hrd wr (HGL.out.kept hkw)
          clear hSM hgr hcq hg hrd hdr hmem hy
          go_wp2_with fail
          refine Calls.mono HN.out ?_
          rintro e w' ⟨rfl, hww⟩
          rw [hww]
          clear hww w' HN
          go_wp2_with fail
          refine Calls.mono HPT.out ?_
          rintro e w3 ⟨hk3, T, u, vb, rfl, hPT, hvd, hNB, hvl⟩
          obtain ⟨ua, hs3, hr3, hul⟩ := adopt_sx (SX.sw (SX.kept HX.out hk3) HAR.out) hPT hNB hvd hvl (fun c hc => SX.lt HX.out hc)
          have har : AR (addT σq.length t (σq ++ vrs names)).2 := hPT.ar _ _ (HAR.out.add (vrs_ar names))
          have m3 := Tryz.mkPS w3
          have hk4 : Kept w3 (w3.alloc (.map #[] 0)) := Kept.alloc _ _
          have HGE : Hid _ := gen_sx 500 _ _ _ _ hgen (w3.alloc (.map #[] 0)) (adq ++ ua) _ w3.heap.size (SX.kept hs3.sx hk4) hr3 (TMp.none w3 _)
          have HADU : Hid (∀ a, a ∈ adq ++ ua → w2.heap.size ≤ a) := fun a ha => by
            simp at ha
            rcases ha with ha | ha
            · exact HAD.out a ha
            · have := hul a ha
              have := HKT.out.size
              omega
          have HKT4 : Hid _ := Kt.fresh HKT.out (Kt.of_kept (ad := []) (S := fun _ => False) (hk3.trans hk4)) (by simp)
          have HGM4 : Hid _ := (GM.kt HGM.out (Kt.of_kept (ad := []) (S := fun _ => False) (hk3.trans hk4)) id).up ua
          have HR3 : Hid _ := hr3
          have HAR2 : Hid _ := AR.gen 500 har hgen
          have HV2 : Hid _ := hv
          have HNF : Hid _ := hnm.2
          clear hs3 hr3 hul har hk4 hPT hvd hNB hvl hgen hv hnm hk3 hkw HGM HKT HAD HAR HX HV HPT hlk hfl hc hgg
          go_wp2_with fail
          refine Calls.mono HGE.out ?_
          rintro e w5 ⟨rfl, hs5, hm5, hk5⟩
          obtain ⟨w6, hput, hgm6, hs6, hk6⟩ := put_gm hs5 (GM.kt HGM4.out hk5 id) HR3.out HNF.out
          have HS6 : Hid _ := hs6
          have HGM6 : Hid _ := hgm6
          have HK6 : Hid _ := (Kt.fresh HKT4.out hk5 HADU.out).trans hk6
          clear hs5 hm5 hk5 hgm6 hs6 hk6 HGE m3 HGM4 HKT4
          go_wp2
          go_roundw
          case measure => simp [intOf]; omega
          case rel => exact ⟨q + 1, _, σ2, adq ++ ua, hlt, by go_num, HV2.out, HS6.out, HAR2.out, HGM6.out, HADU.out, HK6.out⟩
        · simp at hv
      · simp at hv
    · have hqe : q = kvs.length := by omega
      have hv := HV.out
      rw [hqe, List.drop_length] at hv
      simp only [gvF, Option.some.injEq, Prod.mk.injEq] at hv
      obtain ⟨rfl, rfl⟩ := hv
      have hbr := HKT.out.blk w.heap.size _ HB2.out (by show ¬ w.heap.size = w.heap.size + 1; omega) (by
        rintro ⟨cs', e, f, he, ht⟩
        simp only [Obj.cells.injEq] at he
        obtain ⟨_, rfl, _⟩ := he
        rcases ht with e | e | e | e <;> cases e)
      have c0 : wr.cell? ⟨w.heap.size, 0, none⟩ = some (.pointer none) := by simp [World.cell?, hbr]
      have c1 : wr.cell? ⟨w.heap.size, 1, none⟩ = some (.map none) := by simp [World.cell?, hbr]
      have f0 : ∀ j, wr.frozen? ⟨w.heap.size, j, none⟩ = false := fun j => by simp [World.frozen?, hbr]
      have hkw : Kept w wr := Kt.keptBy HKW.out HKT.out (fun q z => by have z : q = w.heap.size + 1 := z; omega)
      clear HV HSM HP HR HB2
      go_wp2_with fail
      obtain ⟨w5, hw5⟩ : ∃ w5, w5 = (wr.setCell ⟨w.heap.size, 0, none⟩ (.pointer none)).setCell ⟨w.heap.size, 1, none⟩ (.map (some (w.heap.size + 1))) := ⟨_, rfl⟩
      have hF : w5.heap[w.heap.size]? = some (.cells #[.pointer none, .map (some (w.heap.size + 1))] 168 (0, 0)) := by
        rw [hw5]
        simp [World.setCell, hbr, Array.getElem?_modify]
      have ho : ∀ k, k ≠ w.heap.size → w5.heap[k]? = wr.heap[k]? := fun k hk => by
        rw [hw5]
        exact (Below.heap_setCell _ _ _ k (fun z => hk z)).trans (Below.heap_setCell _ _ _ k (fun z => hk z))
      have hK5 : Kept w w5 := ⟨by rw [hw5]; exact hkw.os, by rw [hw5]; exact hkw.output, by rw [hw5]; simpa using hkw.size, fun k hk => (ho k (by omega)).trans (hkw.block k hk)⟩
      have hS5 : SX w5 adq σq := SX.keep HX.out (fun b o hb hbo => (ho b (by have := HAD.out b hb; have := HWZ.out; have := HWS.out; omega)).trans hbo)
      have hG5 : GM w5 (w.heap.size + 1) adq gq := by
        obtain ⟨l, hl1, hl2⟩ := HGM.out
        exact ⟨l, (ho _ (by omega)).trans hl1, hl2⟩
      rw [← hw5]
      clear hw5
      have d0 : w5.cell? ⟨w.heap.size, 0, none⟩ = some (.pointer none) := by simp [World.cell?, hF]
      have d1 : w5.cell? ⟨w.heap.size, 1, none⟩ = some (.map (some (w.heap.size + 1))) := by simp [World.cell?, hF]
      exact bodyPost_ret (v := .tuple #[.agg #[.pointer none, .map (some (w.heap.size + 1))], .nilIface]) (by simp [results, Tryz.results71, go_sem, d0, d1]) rfl ⟨_, adq, rfl, hS5, HAR.out, hG5, fun a ha => by have := HAD.out a ha; have := HKW.out.size; omega, hK5⟩
end Go.Proofs.YtleenphlgbklmabGreatDoor

namespace Go.Proofs.YtleenphlgbklmabGreatDoor
open Go.RowKit

theorem PAt.kp {w w' : World} {rb : Nat} {s : ByteArray} {L : List Tk} {k : Nat} (h : PAt w rb s L k) (hk : Kp (fun _ => False) w w') : PAt w' rb s L k := by
  obtain ⟨kd, h1, h2⟩ := h.ex
  exact ⟨⟨kd, hk.blk h1 (fun z => z), h2⟩, h.lt, h.nn⟩
section
variable {s : ByteArray} {L : List Tk} (hE : PEnv s wordsL L) {w : World} {rb k : Nat}
include hE
set_option maxRecDepth 20000 in
set_option maxHeartbeats 1000000 in
theorem patname (h : PAt w rb s L k) : Calls Tryz.prog 167 #[.agg #[.pointer (some ⟨rb, 0, none⟩)]] w fun e w' => e = .returned (.bool (isM L { data := #[110, 97, 109, 101] } k (-1))) ∧ Kp (fun _ => False) w w' := by
  have hk0 : Kp (fun _ => False) w (w.alloc (.cells #[.pointer (some ⟨rb, 0, none⟩)] 174)) := (Kp.refl _ _).alloc _
  have hc0 : (w.alloc (.cells #[.pointer (some ⟨rb, 0, none⟩)] 174)).heap[w.heap.size]? = some (.cells #[.pointer (some ⟨rb, 0, none⟩)] 174 (0, 0)) := heap_alloc_new _ _
  have h0 : PAt (w.alloc (.cells #[.pointer (some ⟨rb, 0, none⟩)] 174)) rb s L k := h.kp hk0
  have hrl := h.lt'
  generalize hw0 : w.alloc (.cells #[.pointer (some ⟨rb, 0, none⟩)] 174) = w0 at *
  have a0 : w0.cell? ⟨w.heap.size, 0, none⟩ = some (.pointer (some ⟨rb, 0, none⟩)) := by simp [World.cell?, hc0]
  obtain ⟨kd, hr, hT⟩ := h0.ex
  have hK := (tk_kind hE h.lt hT).1
  rw [isM_same]
  obtain ⟨_, c1, c2, c3⟩ := hr.c
  have HK : Hid _ := hK
  clear hK hr hT h h0 c2
  generalize (tkAt L k).s = t at *
  by_cases hkd : kd = 1
  · subst hkd
    go_enter Tryz.func167, Tryz.ntmps167
    go_wp2_with (go_at_call 139; refine (pkw_any _ _).mono ?_; rintro e w' ⟨rfl, rfl⟩)
    go_ret
    exact ⟨by rw [← HK.out]; rfl, hk0⟩
  · have hz : ((kd : Int) == 1) = false := by simp; omega
    have HZ : Hid ((kd == 1) = false) := by show _ = _; simp [hkd]
    clear hkd
    go_enter Tryz.func167, Tryz.ntmps167
    go_wp2_with (go_at_call 139; refine (pkw_any _ _).mono ?_; rintro e w' ⟨rfl, rfl⟩)
    go_ret
    exact ⟨by rw [← HK.out, HZ.out]; rfl, hk0⟩
set_option maxRecDepth 20000 in
set_option maxHeartbeats 1000000 in
theorem patatom (h : PAt w rb s L k) : Calls Tryz.prog 153 #[.agg #[.pointer (some ⟨rb, 0, none⟩)]] w fun e w' => e = .returned (.bool (isM L { data := #[110, 97, 109, 101] } k (-1) || isM L { data := #[110, 117, 109] } k (-1) || isM L { data := #[40] } k (-1))) ∧ Kp (fun _ => False) w w' := by
  have hk0 : Kp (fun _ => False) w (w.alloc (.cells #[.pointer (some ⟨rb, 0, none⟩)] 174)) := (Kp.refl _ _).alloc _
  have hc0 : (w.alloc (.cells #[.pointer (some ⟨rb, 0, none⟩)] 174)).heap[w.heap.size]? = some (.cells #[.pointer (some ⟨rb, 0, none⟩)] 174 (0, 0)) := heap_alloc_new _ _
  have h0 : PAt (w.alloc (.cells #[.pointer (some ⟨rb, 0, none⟩)] 174)) rb s L k := h.kp hk0
  have hrl := h.lt'
  generalize hw0 : w.alloc (.cells #[.pointer (some ⟨rb, 0, none⟩)] 174) = w0 at *
  have a0 : w0.cell? ⟨w.heap.size, 0, none⟩ = some (.pointer (some ⟨rb, 0, none⟩)) := by simp [World.cell?, hc0]
  obtain ⟨kd, hr, hT⟩ := h0.ex
  have hK := (tk_kind hE h.lt hT).2.1
  rw [← isM_same] at hK
  obtain ⟨_, c1, c2, c3⟩ := hr.c
  have HN : Hid _ := patname hE h0
  have HI : Hid (∀ w', Kp (fun _ => False) w0 w' → Calls Tryz.prog 80 #[.pointer (some ⟨rb, 0, none⟩), .string { data := #[40] }] w' fun e w'' => e = .returned (.bool (isM L { data := #[40] } k (-1))) ∧ w'' = w') := fun w' hk => at_is hE (h0.kp hk) { data := #[40] } (.inr (.inr ⟨40, rfl, rfl⟩))
  have HR : Hid (∀ w', Kp (fun _ => False) w0 w' → w'.cell? ⟨rb, 1, none⟩ = some (.int .i64 kd) ∧ w'.cell? ⟨w.heap.size, 0, none⟩ = some (.pointer (some ⟨rb, 0, none⟩))) := fun w' hk => ⟨hk.cell c1 (fun z => z), hk.cell a0 (fun z => z)⟩
  have HZ : Hid (((kd : Int) == 2) = isM L { data := #[110, 117, 109] } k (-1)) := by
    show _ = _
    rw [← hK]
    by_cases q : kd = 2
    · subst q; rfl
    · have e1 : ((kd : Int) == 2) = false := by simp; omega
      have e2 : (kd == 2) = false := by simp [q]
      rw [e1, e2]
  clear hK hr hT h h0 c2
  generalize isM L { data := #[110, 97, 109, 101] } k (-1) = b1 at *
  generalize isM L { data := #[110, 117, 109] } k (-1) = b2 at *
  generalize isM L { data := #[40] } k (-1) = b3 at *
  cases b1 <;> cases b2 <;> have hz := HZ.out
  all_goals
    go_enter Tryz.func153, Tryz.ntmps153
    go_wp2_with fail
    refine Calls.mono HN.out ?_
    rintro e w1 ⟨rfl, hk1⟩
    obtain ⟨r1, r2⟩ := HR.out w1 hk1
    have HI1 : Hid _ := HI.out w1 hk1
    clear HN
    go_wp2_with (go_at_call 80; refine Calls.mono HI1.out ?_; rintro e w' ⟨rfl, rfl⟩)
    go_ret
    exact ⟨by first | rfl | simp, hk0.trans hk1⟩
set_option maxRecDepth 20000 in
set_option maxHeartbeats 1000000 in
theorem pnewname (h : PAt w rb s L k) (names : List ByteArray) (nv : Value) (hn : w.ownsRow 0 9 1 nv names.length (names.map Value.string)) :
    Calls Tryz.prog 149 #[.agg #[.pointer (some ⟨rb, 0, none⟩)], nv] w fun e w' => PRet (fun _ v => v = .string (tkAt L k).s ∧ Wd (tkAt L k).s) w rb s L (takeK L { data := #[110, 97, 109, 101] } k (-1)) (dupB names (tkAt L k).s (tkAt L k).loc (needB L { data := #[110, 97, 109, 101] } k (-1))) e w' := by
  obtain ⟨ao, cap, rfl⟩ : ∃ ao cap, nv = .slice ao names.length cap := by
    rcases hn.2 with ⟨e1, e2⟩ | ⟨g, cap, cur, e1, _⟩
    · exact ⟨none, 0, by rw [e1, e2]⟩
    · exact ⟨_, cap, e1⟩
  have hk0 : Kp (fun _ => False) w (w.alloc (.cells #[.pointer (some ⟨rb, 0, none⟩)] 174)) := (Kp.refl _ _).alloc _
  have hc0 : (w.alloc (.cells #[.pointer (some ⟨rb, 0, none⟩)] 174)).heap[w.heap.size]? = some (.cells #[.pointer (some ⟨rb, 0, none⟩)] 174 (0, 0)) := heap_alloc_new _ _
  have h0 : PAt (w.alloc (.cells #[.pointer (some ⟨rb, 0, none⟩)] 174)) rb s L k := h.kp hk0
  have hrl := h.lt'
  generalize hw0 : w.alloc (.cells #[.pointer (some ⟨rb, 0, none⟩)] 174) = w0 at *
  have a0 : w0.cell? ⟨w.heap.size, 0, none⟩ = some (.pointer (some ⟨rb, 0, none⟩)) := by simp [World.cell?, hc0]
  obtain ⟨kd, hr, hT⟩ := h0.ex
  have hWd := (tk_kind hE h.lt hT).2.2
  obtain ⟨_, c1, c2, c3⟩ := hr.c
  have HN : Hid _ := patname hE h0
  have HC : Hid (∀ w', Kp (fun _ => False) w0 w' → Calls Tryz.prog 168 #[.slice ao names.length cap, .string (tkAt L k).s] w' fun e w'' => e = .returned (.bool (names.any (fun m => sameS m (tkAt L k).s))) ∧ w'' = w') := fun w' hk => pcon_any names _ w' _ (row_same (P := fun _ => True) (fun b _ hb => (hk0.trans hk).block b hb (fun z => z)) (fun _ _ => trivial) hn)
  have HX : Hid (∀ w', Kp (fun _ => False) w0 w' → Calls Tryz.prog 81 #[.pointer (some ⟨rb, 0, none⟩)] w' fun e w'' => ThrS w' (tkAt L k).loc e w'') := fun w' hk => (by obtain ⟨kdx, e1, _⟩ := (h0.kp hk).ex; exact prr_any w' rb s _ kdx _ e1)
  have HR : Hid (∀ w', Kp (fun _ => False) w0 w' → w'.cell? ⟨w.heap.size, 0, none⟩ = some (.pointer (some ⟨rb, 0, none⟩))) := fun w' hk => hk.cell a0 (fun z => z)
  have hkq : ∀ w', Kp (fun _ => False) w0 w' → Kq (· = rb) w w' := fun w' hk => Kq.of_kp (hk0.trans hk) (fun _ z => z.elim)
  have HQ : Hid _ := hkq
  clear hkq
  cases hM : isM L { data := #[110, 97, 109, 101] } k (-1)
  · rw [(need_false hM).1, (need_false hM).2, dup_ge (by omega)]
    rw [hM] at HN
    clear hr hT h h0 c2 hWd hn
    go_enter Tryz.func149, Tryz.ntmps149
    go_wp2_with fail
    refine Calls.mono HN.out ?_
    rintro e w1 ⟨rfl, hk1⟩
    have r1 := HR.out w1 hk1
    clear HN
    go_wp2_with fail
    refine Calls.mono (HX.out w1 hk1) ?_
    rintro e w2 ⟨b, he, hx1, hx2, hx3⟩
    rw [he]
    clear he
    go_wp2
    exact ⟨rfl, PRet.thr (ThrX.before (ThrX.of ⟨b, rfl, hx1, hx2, hx3⟩) (HQ.out w1 hk1)) (bz_ge (by omega)) (by omega)⟩
  · have hWd := hWd (.inl (is_name hM))
    have hk := isM_lt hE.good h.lt hM (by decide) (by decide)
    rw [(need_true hM).1, (need_true hM).2]
    rw [hM] at HN
    have hany : names.any (fun m => m.data.toList == (tkAt L k).s.data.toList) = names.any (fun m => sameS m (tkAt L k).s) := rfl
    unfold dupB
    rw [hany]
    cases hd : names.any (fun m => sameS m (tkAt L k).s)
    · rw [if_neg (by simp)]
      have HA : Hid (∀ w', Kp (fun _ => False) w0 w' → Calls Tryz.prog 78 #[.pointer (some ⟨rb, 0, none⟩)] w' fun e w'' => PRet (fun _ v => v = .tuple #[]) w' rb s L (k + 1) (-1) e w'') := fun w' hkw => px_adv hE (h0.kp hkw) hk
      rw [hd] at HC
      clear hr hT h h0 c2 hn hany
      go_enter Tryz.func149, Tryz.ntmps149
      go_wp2_with fail
      refine Calls.mono HN.out ?_
      rintro e w1 ⟨rfl, hk1⟩
      have r1 := HR.out w1 hk1
      clear HN
      go_wp2_with fail
      refine Calls.mono (HC.out w1 hk1) ?_
      rintro e w' ⟨rfl, hww⟩
      rw [hww]
      clear hww w'
      go_wp2_with fail
      refine Calls.mono (HA.out w1 hk1) ?_
      intro e w2 hres
      by_cases hz : 0 ≤ bz L (k + 1) (-1)
      · obtain ⟨b, he, hx⟩ := hres.2 hz
        rw [he]
        clear he hres
        go_wp2
        exact ⟨rfl, PRet.thr (ThrX.before ⟨b, rfl, hx⟩ (HQ.out w1 hk1)) rfl hz⟩
      · obtain ⟨_, v, he, hv, hP, hK⟩ := hres.1 (by omega)
        subst hv
        rw [he]
        clear he hres
        go_wp2
        go_ret
        exact PRet.ret (v := .string (tkAt L k).s) ⟨rfl, hWd⟩ hP ((HQ.out w1 hk1).trans hK)
    · rw [if_pos (by simp)]
      rw [hd] at HC
      clear hr hT h h0 c2 hn hany
      go_enter Tryz.func149, Tryz.ntmps149
      go_wp2_with fail
      refine Calls.mono HN.out ?_
      rintro e w1 ⟨rfl, hk1⟩
      have r1 := HR.out w1 hk1
      clear HN
      go_wp2_with fail
      refine Calls.mono (HC.out w1 hk1) ?_
      rintro e w' ⟨rfl, hww⟩
      rw [hww]
      clear hww w'
      go_wp2_with fail
      refine Calls.mono (HX.out w1 hk1) ?_
      rintro e w2 ⟨b, he, hx1, hx2, hx3⟩
      rw [he]
      clear he
      go_wp2
      exact ⟨rfl, PRet.thr (ThrX.before (ThrX.of ⟨b, rfl, hx1, hx2, hx3⟩) (HQ.out w1 hk1)) (bz_ge (by omega)) (by omega)⟩
end
end Go.Proofs.YtleenphlgbklmabGreatDoor

namespace Go.Proofs.YtleenphlgbklmabGreatDoor
open Go.RowKit

theorem dp_tw (x : X) : dp x ≤ tw x := by
  induction x using X.ind with
  | h op names kids loc ih =>
    have h : ∀ ks : List X, (∀ y, y ∈ ks → dp y ≤ tw y) → dps ks ≤ tws ks := by
      intro ks
      induction ks with
      | nil => intro _; simp [dps]
      | cons y ys ihy =>
        intro h
        have h1 := h y (by simp)
        have h2 := ihy (fun z hz => h z (by simp [hz]))
        simp only [dps, tws]
        omega
    have := h kids ih
    simp only [dp, tw]
    omega
theorem PX.kq {w w' : World} {P : Nat → Prop} {x : X} {v : Value} {rb : Nat} (h : PX w P x v) (hP : ∀ b, P b → b ≠ rb) (hk : Kq (· = rb) w w') : PX w' P x v := h.keep (fun b hb hl => hk.block b hl (fun z => hP b hb z))
/-- an expression that was read: all of it is new. -/
def QX (w0 : World) (x : X) : World → Value → Prop := fun w' v => PX w' (fun b => w0.heap.size ≤ b) x v
def SE (s : ByteArray) (L : List Tk) (n : Nat) : Prop := ∀ (w : World) (rb k : Nat) (x : X) (k' : Nat) (bad' : Int), PAt w rb s L k → expM L n k (-1) = some (x, k', bad') →
  Calls Tryz.prog 75 #[.agg #[.pointer (some ⟨rb, 0, none⟩)]] w fun e w' => PRet (QX w x) w rb s L k' bad' e w'
def SA (s : ByteArray) (L : List Tk) (n : Nat) : Prop := ∀ (w : World) (rb k : Nat) (x : X) (k' : Nat) (bad' : Int), PAt w rb s L k → atomM L n k (-1) = some (x, k', bad') →
  Calls Tryz.prog 152 #[.agg #[.pointer (some ⟨rb, 0, none⟩)]] w fun e w' => PRet (QX w x) w rb s L k' bad' e w'
theorem PRet.up {Q : World → Value → Prop} {w w1 w' : World} {rb : Nat} {s : ByteArray} {L : List Tk} {k1 k' : Nat} {b1 bad' : Int} {e : Ending} (hK : Kq (· = rb) w w1) (hz : 0 ≤ bz L k1 b1) (hF : 0 ≤ bz L k1 b1 → bz L k' bad' = bz L k1 b1) (h : ThrX w1 rb (bz L k1 b1) e w') : PRet Q w rb s L k' bad' e w' := PRet.thr (h.before hK) (hF hz) hz
theorem sticks {L : List Tk} {k0 k1 k' : Nat} {b0 b1 b' : Int} (S : 0 ≤ bz L k0 b0 → bz L k1 b1 = bz L k0 b0) (F : 0 ≤ bz L k1 b1 → bz L k' b' = bz L k1 b1) : 0 ≤ bz L k0 b0 → bz L k' b' = bz L k0 b0 := fun hz => (F (by rw [S hz]; exact hz)).trans (S hz)
/-- the text's bounds. -/
structure PB (L : List Tk) : Prop where
  len : L.length ≤ 301
  sz : ∀ k, (tkAt L k).s.size ≤ 300
theorem PEnv.pb {s : ByteArray} {kws : List ByteArray} {L : List Tk} (h : PEnv s kws L) : PB L := by
  have h1 := h.sz
  refine ⟨?_, fun k => ?_⟩
  · rw [h.eq]
    have := toks_len s kws (s.size + 1) 0
    omega
  · rw [h.eq]
    have := toks_size s kws (s.size + 1) 0 k
    omega
theorem PB.dp {L : List Tk} (h : PB L) {n k : Nat} {bad : Int} {x : X} {k' : Nat} {b' : Int} (hM : expM L n k bad = some (x, k', b')) (hb : b' < 0) (hk : k' < L.length) : Go.Proofs.YtleenphlgbklmabGreatDoor.dp x ≤ 200000 := by
  have h1 := (made L h.sz n).e _ _ _ _ _ hM hb
  have h2 := dp_tw x
  have := h.len
  omega
theorem pnewname0 {s : ByteArray} {L : List Tk} (hE : PEnv s wordsL L) {w : World} {rb k : Nat} (h : PAt w rb s L k) :
    Calls Tryz.prog 149 #[.agg #[.pointer (some ⟨rb, 0, none⟩)], .slice none 0 0] w fun e w' => PRet (fun _ v => v = .string (tkAt L k).s ∧ Wd (tkAt L k).s) w rb s L (takeK L { data := #[110, 97, 109, 101] } k (-1)) (needB L { data := #[110, 97, 109, 101] } k (-1)) e w' := by
  have := pnewname hE h [] (.slice none 0 0) (World.ownsRow_nil _ _ _ _)
  have e : dupB [] (tkAt L k).s (tkAt L k).loc (needB L { data := #[110, 97, 109, 101] } k (-1)) = needB L { data := #[110, 97, 109, 101] } k (-1) := by simp [dupB]
  rw [e] at this
  exact this
theorem above1 {w : World} {P : Nat → Prop} {x : X} {T : TypeId} {u : Value} (hx : PX w P x (.iface T u)) (hd : dp x ≤ 200000) :
    Calls Tryz.prog 150 #[.slice (some ⟨w.heap.size, 0, none⟩) 1 1] (w.alloc (.cells #[.iface T u] 107)) fun e w' => e = .returned (.agg #[.int .i64 (dp x + 1 : Nat)]) ∧ Kp (fun _ => False) w w' := by
  have hk : Kp (fun _ => False) w (w.alloc (.cells #[.iface T u] 107)) := (Kp.refl _ _).alloc _
  have hc : (w.alloc (.cells #[.iface T u] 107)).heap[w.heap.size]? = some (.cells #[.iface T u] 107 (0, 0)) := heap_alloc_new _ _
  have := above_any [x] [.iface T u] w.heap.size 1 (w.alloc (.cells #[.iface T u] 107)) P rfl (by
    intro j hj
    have : j = 0 := by simpa using hj
    subst this
    simp only [World.cell?, hc]
    rfl) (by
    intro j y p h1 h2
    match j, h1, h2 with
    | 0, h1, h2 => simp at h1 h2; subst h1; subst h2; exact hx.kp hk) (by simp) (by simp [dps]; omega)
  refine this.mono ?_
  rintro e w' ⟨rfl, hk2⟩
  exact ⟨by simp [dps], hk.trans hk2⟩
theorem above2 {w : World} {P : Nat → Prop} {x y : X} {T T2 : TypeId} {u u2 : Value} (hx : PX w P x (.iface T u)) (hy : PX w P y (.iface T2 u2)) (hd : dp x ≤ 200000) (hd2 : dp y ≤ 200000) :
    Calls Tryz.prog 150 #[.slice (some ⟨w.heap.size, 0, none⟩) 2 2] (w.alloc (.cells #[.iface T u, .iface T2 u2] 107)) fun e w' => e = .returned (.agg #[.int .i64 (max (dp x) (dp y) + 1 : Nat)]) ∧ Kp (fun _ => False) w w' := by
  have hk : Kp (fun _ => False) w (w.alloc (.cells #[.iface T u, .iface T2 u2] 107)) := (Kp.refl _ _).alloc _
  have hc : (w.alloc (.cells #[.iface T u, .iface T2 u2] 107)).heap[w.heap.size]? = some (.cells #[.iface T u, .iface T2 u2] 107 (0, 0)) := heap_alloc_new _ _
  have := above_any [x, y] [.iface T u, .iface T2 u2] w.heap.size 2 (w.alloc (.cells #[.iface T u, .iface T2 u2] 107)) P rfl (by
    intro j hj
    match j, hj with
    | 0, _ => simp only [World.cell?, hc]; rfl
    | 1, _ => simp only [World.cell?, hc]; rfl) (by
    intro j z p h1 h2
    match j, h1, h2 with
    | 0, h1, h2 => simp at h1 h2; subst h1; subst h2; exact hx.kp hk
    | 1, h1, h2 => simp at h1 h2; subst h1; subst h2; exact hy.kp hk) (by simp) (by simp [dps]; omega)
  refine this.mono ?_
  rintro e w' ⟨rfl, hk2⟩
  exact ⟨by simp [dps], hk.trans hk2⟩
theorem above3 {w : World} {P : Nat → Prop} {x y z : X} {T T2 T3 : TypeId} {u u2 u3 : Value} (hx : PX w P x (.iface T u)) (hy : PX w P y (.iface T2 u2)) (hz : PX w P z (.iface T3 u3)) (hd : dp x ≤ 200000) (hd2 : dp y ≤ 200000) (hd3 : dp z ≤ 200000) :
    Calls Tryz.prog 150 #[.slice (some ⟨w.heap.size, 0, none⟩) 3 3] (w.alloc (.cells #[.iface T u, .iface T2 u2, .iface T3 u3] 107)) fun e w' => e = .returned (.agg #[.int .i64 (max (dp x) (max (dp y) (dp z)) + 1 : Nat)]) ∧ Kp (fun _ => False) w w' := by
  have hk : Kp (fun _ => False) w (w.alloc (.cells #[.iface T u, .iface T2 u2, .iface T3 u3] 107)) := (Kp.refl _ _).alloc _
  have hc : (w.alloc (.cells #[.iface T u, .iface T2 u2, .iface T3 u3] 107)).heap[w.heap.size]? = some (.cells #[.iface T u, .iface T2 u2, .iface T3 u3] 107 (0, 0)) := heap_alloc_new _ _
  have := above_any [x, y, z] [.iface T u, .iface T2 u2, .iface T3 u3] w.heap.size 3 (w.alloc (.cells #[.iface T u, .iface T2 u2, .iface T3 u3] 107)) P rfl (by
    intro j hj
    match j, hj with
    | 0, _ => simp only [World.cell?, hc]; rfl
    | 1, _ => simp only [World.cell?, hc]; rfl
    | 2, _ => simp only [World.cell?, hc]; rfl) (by
    intro j t p h1 h2
    match j, h1, h2 with
    | 0, h1, h2 => simp at h1 h2; subst h1; subst h2; exact hx.kp hk
    | 1, h1, h2 => simp at h1 h2; subst h1; subst h2; exact hy.kp hk
    | 2, h1, h2 => simp at h1 h2; subst h1; subst h2; exact hz.kp hk) (by simp) (by simp [dps]; omega)
  refine this.mono ?_
  rintro e w' ⟨rfl, hk2⟩
  exact ⟨by simp [dps], hk.trans hk2⟩
end Go.Proofs.YtleenphlgbklmabGreatDoor
