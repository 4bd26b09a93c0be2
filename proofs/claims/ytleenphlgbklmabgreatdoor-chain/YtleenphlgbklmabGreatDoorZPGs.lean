import Derived.Test.YtleenphlgbklmabGreatDoorZPPJ
import Derived.Test.YtleenphlgbklmabGreatDoorZWCanon
import Derived.Test.YtleenphlgbklmabGreatDoorZPSign
import Derived.Test.YtleenphlgbklmabGreatDoorZPStep
set_option linter.unusedVariables false
set_option linter.unusedSimpArgs false
namespace Go.Proofs.YtleenphlgbklmabGreatDoor
open Go.RowKit

theorem kinds_same : kkinds = tyWords := rfl
end Go.Proofs.YtleenphlgbklmabGreatDoor

namespace Go.Proofs.YtleenphlgbklmabGreatDoor
open Go.RowKit

/-- what a text is as a type: none, by a fault; or one, with its names. -/
inductive RdO where
  | bad (what loc : Int) | good (t : Ty) (names : List ByteArray)
end Go.Proofs.YtleenphlgbklmabGreatDoor

namespace Go.Proofs.YtleenphlgbklmabGreatDoor
open Go.RowKit

/-- what a text is as a type. -/
def rdO (s : ByteArray) : RdO :=
  if 300 < s.size then .bad 1 0
  else match arrowM (lexT s) (2 * (lexT s).length + 2) [] 0 (-1) with
    | none => .bad 1 0
    | some (t, names, K, B) => if 0 ≤ needB (lexT s) { data := #[101, 110, 100] } K B then .bad 2 (needB (lexT s) { data := #[101, 110, 100] } K B) else if 120 < sz t then .bad 8 0 else .good t names
end Go.Proofs.YtleenphlgbklmabGreatDoor

namespace Go.Proofs.YtleenphlgbklmabGreatDoor
open Go.RowKit

theorem kwIn_words (t : ByteArray) : kwIn wordsL t = (sameS t { data := #[102, 117, 110] } || (sameS t { data := #[108, 101, 116] } || (sameS t { data := #[114, 101, 99] } || (sameS t { data := #[97, 110, 100] } || (sameS t { data := #[105, 110] } || (sameS t { data := #[105, 102] } || (sameS t { data := #[116, 104, 101, 110] } || sameS t { data := #[101, 108, 115, 101] }))))))) := by
  simp [kwIn, wordsL]
set_option maxRecDepth 20000 in
theorem pkw_any (t : ByteArray) (w : World) : Calls Tryz.prog 139 #[.string t] w fun e w' => e = .returned (.bool (kwIn wordsL t)) ∧ w' = w := by
  rw [kwIn_words]
  have e : ∀ q : ByteArray, sameS t q = (t.toList == q.data.toList) := fun q => by unfold sameS; rw [ByteArray.toList_eq]
  simp only [e]
  clear e
  go_enter Tryz.func139, Tryz.ntmps139
  go_wp2
  all_goals
    go_ret
    refine ⟨?_, rfl⟩
    simp_all
set_option maxRecDepth 20000 in
set_option maxHeartbeats 1000000 in
theorem pidx_any (names : List ByteArray) (x : ByteArray) (w : World) (nv : Value) (h : w.ownsRow 0 9 1 nv names.length (names.map Value.string)) :
    Calls Tryz.prog 184 #[nv, .string x] w fun e w' => (∃ r : Int, e = .returned (.int .i64 r) ∧ decide (0 ≤ r) = names.any (fun m => sameS m x)) ∧ w' = w := by
  have h' : w.ownsRow 0 9 1 nv (names.map Value.string).length (names.map Value.string) := by rw [List.length_map]; exact h
  obtain ⟨ao, cap, rfl, hrow⟩ := row_form h'
  have hml : names.length ≤ 9223372036854775807 := by
    rcases h.2 with ⟨e1, e2⟩ | ⟨g, c', cur, e1, _, _, e4, e5, _⟩
    · omega
    · unfold maxLen at e5; omega
  rw [List.length_map] at hrow ⊢
  clear h h'
  go_enter Tryz.func184, Tryz.ntmps184
  go_wp2
  go_loop [8] (fun i => ∃ q : Nat, q ≤ names.length ∧ i = .int .i64 q ∧ (names.take q).any (fun m => sameS m x) = false) (fun i => names.length - (intOf i).toNat)
  case atStart => exact ⟨0, Nat.zero_le _, rfl, by simp⟩
  case round =>
    obtain ⟨q, hq, rfl, hno⟩ := hrel
    by_cases hlt : q < names.length
    · obtain ⟨g, rfl, hc⟩ := hrow q hlt
      have hc2 : w.cell? ⟨g, q, none⟩ = some (.string names[q]) := by rw [hc]; simp [hlt]
      have hst : Hid ((names.take (q + 1)).any (fun m => sameS m x) = sameS names[q] x) := by
        show _ = _
        rw [List.take_succ_eq_append_getElem hlt, List.any_append, hno]
        simp
      have hmem : Hid (sameS names[q] x = true → names.any (fun m => sameS m x) = true) := fun e => List.any_eq_true.2 ⟨_, List.getElem_mem hlt, e⟩
      have hS : Hid (sameS names[q] x = (x.toList == (names[q]).toList)) := by
        show _ = _
        unfold sameS
        rw [ByteArray.toList_eq, ByteArray.toList_eq, Bool.beq_comm]
      clear hc hrow hno
      generalize names[q] = y at *
      cases hb : (x.toList == y.toList)
      · go_wp2
        go_round
        case rel => exact ⟨q + 1, by omega, by go_num, by rw [hst.out, hS.out, hb]⟩
        case measure => simp [intOf]; omega
      · go_wp2
        go_ret
        exact ⟨⟨q, rfl, by rw [hmem.out (by rw [hS.out, hb])]; simp⟩, rfl⟩
    · have hq2 : q = names.length := by omega
      have hk : Hid (names.any (fun m => sameS m x) = false) := by show _ = _; rw [hq2, List.take_length] at hno; exact hno
      clear hrow hno hq2
      go_wp2
      go_ret
      exact ⟨⟨-1, rfl, by rw [hk.out]; rfl⟩, rfl⟩
theorem pcon_any (names : List ByteArray) (x : ByteArray) (w : World) (nv : Value) (h : w.ownsRow 0 9 1 nv names.length (names.map Value.string)) :
    Calls Tryz.prog 168 #[nv, .string x] w fun e w' => e = .returned (.bool (names.any (fun m => sameS m x))) ∧ w' = w := by
  have H : Hid _ := pidx_any names x w nv h
  obtain ⟨ao, cap, rfl⟩ : ∃ ao cap, nv = .slice ao names.length cap := by
    rcases h.2 with ⟨e1, e2⟩ | ⟨g, cap, cur, e1, _⟩
    · exact ⟨none, 0, by rw [e1, e2]⟩
    · exact ⟨_, cap, e1⟩
  clear h
  go_enter Tryz.func168, Tryz.ntmps168
  go_wp2_with fail
  refine Calls.mono H.out ?_
  rintro e w' ⟨⟨r, rfl, hr⟩, hw⟩
  rw [hw]
  have HR : Hid _ := hr
  clear H hw hr
  go_wp2
  go_ret
  exact ⟨by rw [← HR.out]; rfl, rfl⟩
end Go.Proofs.YtleenphlgbklmabGreatDoor

namespace Go.Proofs.YtleenphlgbklmabGreatDoor
open Go.RowKit

def isNameF (t : ByteArray) : Bool := if t.size = 0 then false else if 8 < t.size then false else if lowI (chr t 0) then (if run lfI t 0 = t.size then !(kwIn wordsL t) else false) else false
theorem tl_empty (t : ByteArray) : (t.toList == []) = decide (t.size = 0) := by
  rw [ByteArray.toList_eq]
  have e : t.data.toList.length = t.size := by rw [Array.length_toList]; rfl
  cases h : t.data.toList with
  | nil =>
    rw [h] at e
    have : t.size = 0 := by simpa using e.symm
    rw [this]
    rfl
  | cons a l =>
    rw [h] at e
    have : ¬ t.size = 0 := by rw [← e]; simp
    rw [decide_eq_false this]
    rfl
set_option maxRecDepth 20000 in
set_option maxHeartbeats 1000000 in
theorem isname_any (t : ByteArray) (w : World) (ht : t.size ≤ 1000000) : Calls Tryz.prog 101 #[.string t] w fun e w' => e = .returned (.bool (isNameF t)) ∧ w' = w := by
  have he := tl_empty t
  unfold isNameF
  by_cases h0 : t.size = 0
  · simp only [h0, if_true]
    rw [h0] at he
    simp only [decide_true] at he
    go_enter Tryz.func101, Tryz.ntmps101
    go_wp2
    go_ret
    exact ⟨rfl, rfl⟩
  · simp only [h0, if_false]
    simp only [h0, decide_false] at he
    by_cases h8 : 8 < t.size
    · simp only [h8, if_true]
      have h9 : ¬ (t.size : Int) ≤ 8 := by omega
      go_enter Tryz.func101, Tryz.ntmps101
      go_wp2
      go_ret
      exact ⟨rfl, rfl⟩
    · simp only [h8, if_false]
      have h9 : (t.size : Int) ≤ 8 := by omega
      have HL : Hid _ := fun c => pletter_any c w
      have hp : 0 < t.size := by omega
      have hc : ((t[0]'hp).toNat : Int) = chr t 0 := by simp [chr, hp]
      have HD : Hid _ := lead_ld t (by omega) w
      have HW : Hid _ := pkw_any t w
      cases hl : lowI (chr t 0) with
      | false =>
        simp only [Bool.false_eq_true, if_false]
        go_enter Tryz.func101, Tryz.ntmps101
        go_wp2_with fail
        refine Calls.mono (HL.out _) ?_
        rintro e w' ⟨rfl, hww⟩
        rw [hww, hl]
        clear hww w' HL hc
        go_wp2
        go_ret
        exact ⟨rfl, rfl⟩
      | true =>
        simp only [if_true]
        by_cases hr : run lfI t 0 = t.size
        · simp only [hr, if_true]
          rw [hr] at HD
          go_enter Tryz.func101, Tryz.ntmps101
          go_wp2_with fail
          refine Calls.mono (HL.out _) ?_
          rintro e w' ⟨rfl, hww⟩
          rw [hww, hl]
          clear hww w' HL hc
          go_wp2_with fail
          refine Calls.mono HD.out ?_
          rintro e w' ⟨rfl, hww⟩
          rw [hww]
          clear hww w' HD
          go_wp2_with fail
          refine Calls.mono HW.out ?_
          rintro e w' ⟨rfl, hww⟩
          rw [hww]
          clear hww w' HW
          go_wp2
          go_ret
          exact ⟨rfl, rfl⟩
        · simp only [hr, if_false]
          have hr2 : ¬ ((run lfI t 0 : Nat) : Int) = (t.size : Int) := by omega
          go_enter Tryz.func101, Tryz.ntmps101
          go_wp2_with fail
          refine Calls.mono (HL.out _) ?_
          rintro e w' ⟨rfl, hww⟩
          rw [hww, hl]
          clear hww w' HL hc
          go_wp2_with fail
          refine Calls.mono HD.out ?_
          rintro e w' ⟨rfl, hww⟩
          rw [hww]
          clear hww w' HD
          go_wp2
          go_ret
          exact ⟨rfl, rfl⟩
end Go.Proofs.YtleenphlgbklmabGreatDoor

namespace Go.Proofs.YtleenphlgbklmabGreatDoor
open Go.RowKit

/-- none was found to be another. -/
def AR (σ : St) : Prop := ∀ (i : Nat) (nd : Nd), σ[i]? = some nd → nd.s = none
theorem SX.sw {w : World} {ad : List Nat} {σ : St} (h : SX w ad σ) (ha : AR σ) : SW w ad σ := by
  obtain ⟨τ, h1, h2⟩ := h
  have : τ = σ := by
    apply List.ext_getElem?
    intro i
    cases hi : σ[i]? with
    | none =>
      rw [List.getElem?_eq_none_iff] at hi ⊢
      rw [h2.len]
      exact hi
    | some nd =>
      have hs := ha i nd hi
      obtain ⟨nk, s⟩ := nd
      simp only at hs
      subst hs
      exact h2.root hi
  rw [← this]
  exact h1
theorem SW.sx {w : World} {ad : List Nat} {σ : St} (h : SW w ad σ) : SX w ad σ := ⟨σ, h, Ev.refl _⟩
theorem AR.ws {σ : St} (h : AR σ) : WS σ := fun i nk r hi => by
  have := h i _ hi
  simp at this
theorem AR.add {σ : St} (h : AR σ) {u : St} (hu : ∀ nd, nd ∈ u → nd.s = none) : AR (σ ++ u) := fun i nd hi => by
  by_cases e : i < σ.length
  · rw [List.getElem?_append_left e] at hi
    exact h i nd hi
  · rw [List.getElem?_append_right (by omega)] at hi
    exact hu nd (List.mem_of_getElem? hi)
theorem PTyR.ar {w : World} {vb : List Nat} {lo hi : Nat} {t : Ty} {v : Value} (h : PTyR w vb lo hi t v) : ∀ (vs : Nat) (τ : St), AR τ → AR (addT vs t τ).2 := by
  induction h with
  | var n b lo hi h1 hb => intro vs τ ha; rw [addT_var]; exact ha
  | base kd lo hi h1 hk =>
    intro vs τ ha
    rcases hk with rfl | rfl
    · rw [addT_int]; exact ha
    · rw [addT_bool]; exact ha
  | list a b p lo m hi hb ha' h1 h2 ih => intro vs τ ha; rw [addT_list]; exact (ih vs τ ha).add (by simp)
  | pair a c b p q lo m k hi hb ha' hc h1 h2 ih ih2 => intro vs τ ha; rw [addT_pair]; exact (ih2 vs _ (ih vs τ ha)).add (by simp)
  | fn a c b p q lo m k hi hb ha' hc h1 h2 ih ih2 => intro vs τ ha; rw [addT_fn]; exact (ih2 vs _ (ih vs τ ha)).add (by simp)
theorem vrs_ar (names : List ByteArray) : ∀ nd, nd ∈ vrs names → nd.s = none := by
  intro nd h
  simp only [vrs, List.mem_map] at h
  obtain ⟨n, _, rfl⟩ := h
  rfl
theorem AR.mark {σ : St} (h : AR σ) (r : TR) : AR (markF σ r) := by
  unfold markF
  split
  · split
    · rename_i i _ nm g hi
      intro j nd hj
      by_cases e : i = j
      · subst e
        rw [List.getElem?_set_self (List.getElem?_eq_some_iff.1 hi).1] at hj
        simp only [Option.some.injEq] at hj
        rw [← hj]
      · rw [List.getElem?_set_ne e] at hj
        exact h j nd hj
    · exact h
  · exact h
theorem AR.gen : ∀ (n : Nat) {σ τ : St} {r : TR} {bd : List TR}, AR σ → genF n σ r bd = some τ → AR τ := by
  intro n
  induction n with
  | zero => intro σ τ r bd _ h; simp [genF] at h
  | succ n ih =>
    intro σ τ r bd h hs
    simp only [genF, Option.bind_eq_some_iff] at hs
    obtain ⟨r0, _, hs⟩ := hs
    split at hs
    · simp only [Option.some.injEq] at hs
      exact hs ▸ h
    · split at hs
      · simp only [Option.some.injEq] at hs
        exact hs ▸ h.mark _
      · simp only [Option.bind_eq_some_iff] at hs
        obtain ⟨ks, _, hs⟩ := hs
        split at hs
        · simp only [Option.some.injEq] at hs
          exact hs ▸ h
        · exact ih h hs
        · simp only [Option.bind_eq_some_iff] at hs
          obtain ⟨σ1, h1, hs⟩ := hs
          exact ih (ih h h1) hs
        · simp at hs
/-- a type that was read joins the store, behind what lies there. -/
theorem adopt_sx {w : World} {ad : List Nat} {σ : St} (hs : SW w ad σ) {vb : List Nat} {lo hi : Nat} {t : Ty} {v : Value} {names : List ByteArray} (h : PTyR w vb lo hi t v) (hn : NB w vb names) (hd : vb.Nodup) (hfr : ∀ c, c ∈ vb → lo ≤ c) (had : ∀ c, c ∈ ad → c < lo) :
    ∃ u, SW w (ad ++ u) (addT σ.length t (σ ++ vrs names)).2 ∧ RV (ad ++ u) (addT σ.length t (σ ++ vrs names)).1 v ∧ ∀ c, c ∈ u → lo ≤ c := by
  have h1 := SW.vars names hs hn.1 hn.2 hd (fun c hc z => by have := hfr c hc; have := had c z; omega)
  obtain ⟨bl, s1, r1, hbl⟩ := SW.adopt h σ.length (ad ++ vb) (σ ++ vrs names) h1 (fun n b hb => by rw [← hs.len, List.getElem?_append_right (by omega)]; simpa using hb) (fun c hc => by
    simp at hc
    rcases hc with hc | hc
    · exact .inr (had c hc)
    · left
      obtain ⟨j, hj, rfl⟩ := List.getElem_of_mem hc
      have := hn.2 j (hn.1 ▸ hj)
      have e : vb.getD j 0 = vb[j] := by simp [List.getD, hj]
      rw [e] at this
      exact ⟨_, _, this⟩)
  refine ⟨vb ++ bl, by rw [← List.append_assoc]; exact s1, by rw [← List.append_assoc]; exact r1, ?_⟩
  intro c hc
  simp at hc
  rcases hc with hc | hc
  · exact hfr c hc
  · exact (hbl c hc).1
/-- parseType, where the text is a type. -/
theorem rd_good {A : Nat → Addr} {s : ByteArray} {t : Ty} {names : List ByteArray} (hr : rdO s = .good t names) (w : World) (hG : Glb A w) :
    Calls Tryz.prog 35 #[.string s] w fun e w' => Kept w w' ∧ ∃ T u vb, e = .returned (.tuple #[.iface T u, .nilIface]) ∧ PTyR w' vb w.heap.size w'.heap.size t (.iface T u) ∧ vb.Nodup ∧ NB w' vb names ∧ (∀ c, c ∈ vb → w.heap.size ≤ c) := by
  unfold rdO at hr
  by_cases hs : 300 < s.size
  · rw [if_pos hs] at hr
    cases hr
  · rw [if_neg hs] at hr
    have hs : s.size ≤ 300 := by omega
    have hE : PEnv s tyWords (lexT s) := ⟨hs, tyWordsOk, by unfold lexT; rw [kinds_same]⟩
    cases hM : arrowM (lexT s) (2 * (lexT s).length + 2) [] 0 (-1) with
    | none => rw [hM] at hr; cases hr
    | some q =>
      obtain ⟨t', names', K, B⟩ := q
      rw [hM] at hr
      simp only at hr
      split at hr
      · cases hr
      · rename_i hF
        split at hr
        · cases hr
        · rename_i hd
          simp only [RdO.good.injEq] at hr
          obtain ⟨rfl, rfl⟩ := hr
          refine (ptype_any hE w hG _ t' names' K B hM).mono ?_
          rintro e w' ⟨hk, h⟩
          rcases h with ⟨b, l, e1, _⟩ | ⟨_, e2, _⟩ | ⟨_, _, v, vb, e2, e3, e4, e5, e6⟩
          · omega
          · omega
          · obtain ⟨T, u, rfl⟩ := e3.iface
            exact ⟨hk, T, u, vb, e2, e3, e5, e6, fun c hc => (e4 c hc).2⟩
/-- the environment's types, one after another: where all are good. -/
def gvF : List (ByteArray × ByteArray) → Gv → St → Option (Gv × St)
  | [], gv, σ => some (gv, σ)
  | (n, ty) :: rest, gv, σ => if isNameF n && (findG n gv).isNone then match rdO ty with
    | .good t names => (genF 500 (addT σ.length t (σ ++ vrs names)).2 (addT σ.length t (σ ++ vrs names)).1 []).bind fun σ2 => gvF rest (gv ++ [(n, (addT σ.length t (σ ++ vrs names)).1)]) σ2
    | _ => none
    else none
theorem put_gm {w : World} {gm : Nat} {ad : List Nat} {g : Gv} {σ : St} (hs : SX w ad σ) (h : GM w gm ad g) {n : ByteArray} {r : TR} {v : Value} (hv : RV ad r v) (hn : findG n g = none) :
    ∃ w', (Instr.mapUpdate 166 (.map (some gm)) (.string n) v).run Tryz.prog w = .ok () w' ∧ GM w' gm ad (g ++ [(n, r)]) ∧ SX w' ad σ ∧ Kt [] (fun q => q = gm) w w' := by
  obtain ⟨l, h1, h2⟩ := h
  have hf := find_gs n l 0
  rw [(h2.look (n := n) 0).2 hn] at hf
  have hc : (Instr.checkKey false 10000 9 (.string n)).run Tryz.prog w = .ok () w := MapKept.run_checkKey Tryz.underlying9 (by simp [MapKept.IsKey]) false 9999
  have e : (gE l 0).toArray.push { key := .string n, val := v, born := l.length } = (gE (l ++ [(n, v)]) 0).toArray := by
    rw [gE_snoc]
    simp
  refine ⟨mapSet w gm (.map (gE (l ++ [(n, v)]) 0).toArray (l.length + 1)), ?_, ⟨l ++ [(n, v)], ?_, h2.snoc hv⟩, hs.mapSet h1 _, Kt.mapset h1 _⟩
  · rw [← e]
    simp [mapSet, Instr.mapUpdate, run_underlying Tryz.underlying166, MapKept.run_getObj_map h1, hc, MapKept.run_findKey Tryz.underlying9 hf, MapKept.run_setObj_map _ h1, Result.andThen]
  · rw [mapSet_same _ _ _ (lt_of_block h1)]
    simp
theorem Tryz.mkG (w : World) : (Instr.makeMap 166 none).run Tryz.prog w = .ok (.map (some w.heap.size)) (w.alloc (.map #[] 0)) := by kernel_rfl
theorem GM.none (w : World) (ad : List Nat) : GM (w.alloc (.map #[] 0)) w.heap.size ad [] := ⟨[], heap_alloc_new _ _, trivial⟩
theorem perm_sorted_eq {l m : List (List UInt8)} (h : l.Perm m) (hl : l.Pairwise (fun x y => decide (x ≤ y) = true)) (hm : m.Pairwise (fun x y => decide (x ≤ y) = true)) : l = m :=
  List.Perm.eq_of_pairwise (fun a b _ _ h1 h2 => List.le_antisymm (of_decide_eq_true h1) (of_decide_eq_true h2)) hl hm h
theorem SM.at {w : World} {mb : Nat} {kv : List (ByteArray × ByteArray)} (h : SM w mb kv) {n ty : ByteArray} (hm : (n, ty) ∈ kv) : (Instr.lookup 60 (.map (some mb)) (.string n) false).run Tryz.prog w = .ok (.agg #[.string ty]) w := by
  have := run_tlook1 60 Tryz.underlying60 w mb kv n h
  rw [this]
  obtain ⟨j, hj, e⟩ := List.getElem_of_mem hm
  have : kv.findIdx? (fun x => sameS x.1 n) = some j := by
    rw [List.findIdx?_eq_some_iff_getElem]
    refine ⟨hj, (sameS_iff _ _).2 (by rw [e]), ?_⟩
    intro i hi z
    have z := (sameS_iff _ _).1 z
    have := (List.pairwise_iff_getElem.1 h.nd) i j (by simp; omega) (by simpa using hj) hi
    simp at this
    rw [e] at this
    exact this z
  rw [this]
  simp [kAt, List.getD, hj, e]
end Go.Proofs.YtleenphlgbklmabGreatDoor
