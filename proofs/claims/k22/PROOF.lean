import PyProof.Rows.All
import Wide.All
import OpenK.AllK
import Wide.FinOn
import KE.KBits
import KE.BitLaws
import HandS.ForMost
import HandS.ForExc
import HandS.IsInst
import HandS.Wide
import HandS.WideBits
import HandS.WideMore
import HandS.Flow
import HandS.ExcInit
import HandS.Codes
import HandS.ExcField
import HandS.ExcIs
import KE.KExcIs
import KE.KIsAll
import HandS.More
import HandS.Dict
import HandS.CallLocal
import HandS.Zip
import HandS.Text
import HandS.Conv
import HandS.Iter
import PySem.Challenge.RW_wasmhost_k22_numbers_in_words
set_option Elab.async false
set_option linter.all false
set_option maxRecDepth 100000
set_option maxHeartbeats 4000000
namespace V
open PySem PySem.Spec PyProof.Rows L2
/-! ### a def that may be called by its name -/
structure Cal (P : Program) (w : World) (K : PySem.W.Frag) (mg : Str → Option Value) (base : Heap) (C : CXT) (k : Nat) (x : Str) (sp : Sp) : Prop where
  ex : ∃ (f : Addr) (fd : FuncData) (ps : List Str), FnOk P w K mg base C k f fd ps sp ∧ mg x = some (.ref f) ∧ PySem.W.keepIn K (.ref f) = true ∧ Binds K fd ps []
section
variable {P : Program} {w : World} {K : PySem.W.Frag} {mg : Str → Option Value} {base : Heap} {k : Nat} {x : Str} {sp sp' : Sp} {C : CXT}
theorem Cal.mono (c : Cal P w K mg base C k x sp) {j : Nat} (h : k ≤ j) : Cal P w K mg base C j x sp := by
  obtain ⟨f, fd, ps, F, m, kp, b⟩ := c.ex
  exact ⟨f, fd, ps, F.mono h, m, kp, b⟩
theorem Cal.imp (c : Cal P w K mg base C k x sp) (h : ∀ vs H Q E, sp' vs H Q E → sp vs H Q E) : Cal P w K mg base C k x sp' := by
  obtain ⟨f, fd, ps, F, m, kp, b⟩ := c.ex
  exact ⟨f, fd, ps, F.imp h, m, kp, b⟩
/-- a def as the top leaves it -/
structure Def (K : PySem.W.Frag) (mg : Str → Option Value) (x : Str) (st : Stmt) (ps : List Str) : Prop where
  ex : ∃ (f : Addr) (fd : FuncData), L2.Fun K x x st f fd ∧ mg x = some (.ref f) ∧ Binds K fd ps []
theorem Def.ok {st : Stmt} {N ps : List Str} (D : Def K mg x st ps) (S : FnScope N ps (defScope st)) (len : ∀ vs H Q E, sp vs H Q E → vs.length = ps.length)
    (hbody : ∀ (f : Addr) (cdv : Value) (A : Around) (outer : List Env) (s : Shared) (H : Hp) (vs : List V) (Q : VK) (E : XK), Room k (A.deeper (envOfC x (defScope st) s.heap.objs.size f cdv)) → sp vs H Q E →
      ∃ t, PSs (cxOf CX0 P w K mg base N x (defScope st) f cdv A outer s H E).nox (defBody st) t ∧ t { nx := fun _ H' => Q .non H', rt := Q } (start N vs) H) : Cal P w K mg base CX0 (k + 1) x sp := by
  obtain ⟨f, fd, F, m, b⟩ := D.ex
  exact ⟨f, fd, ps, F.ok S len (hbody f), m, F.kp, b⟩
theorem Def.okX {st : Stmt} {N ps : List Str} (D : Def K mg x st ps) (S : FnScope N ps (defScope st)) (len : ∀ vs H Q E, sp vs H Q E → vs.length = ps.length)
    (hbody : ∀ (f : Addr) (cdv : Value) (A : Around) (outer : List Env) (s : Shared) (H : Hp) (vs : List V) (Q : VK) (E : XK), Room k (A.deeper (envOfC x (defScope st) s.heap.objs.size f cdv)) → sp vs H Q E →
      ∃ t, PSs (cxOf (L2.CX P w) P w K mg base N x (defScope st) f cdv A outer s H E) (defBody st) t ∧ t { nx := fun _ H' => Q .non H', rt := Q } (start N vs) H) : Cal P w K mg base (L2.CX P w) (k + 1) x sp := by
  obtain ⟨f, fd, F, m, b⟩ := D.ex
  exact ⟨f, fd, ps, F.okX S len (hbody f), m, F.kp, b⟩
end
section
variable {X : Cx} {k j : Nat} {x : Str} {sp : Sp} {p pos : Pos} {e : Expr} {es : List Expr} {t : TA} {C : CXT} {E : XK}
theorem pe_cE (c : Cal X.prog X.w X.K X.mg X.base C k x sp) (hr : Room j X.A) (hk : k ≤ j) (hx : Passes C X E) (hg : Gl X x) (ha : PA X (e :: es) t)
    (hdb : (x == ("__debug__" : Str)) = false := by decide) (he : starEach (e :: es) X.env = (false, eval e X.env) :: starEach es X.env := by rfl) (hpl : (backTo pos (starEach es X.env)).any (·.1) = false := by rfl) :
    PE X (.Call (.Name x p) (e :: es) [] pos) (tCall sp [] E t) := by
  obtain ⟨f, fd, ps, F, hm, kp, b⟩ := c.ex
  exact pe_call F (hr.mono hk) hg hm kp b .nil hx ha hdb he hpl
theorem pe_cE0 (c : Cal X.prog X.w X.K X.mg X.base C k x sp) (hr : Room j X.A) (hk : k ≤ j) (hx : Passes C X E) (hg : Gl X x)
    (hdb : (x == ("__debug__" : Str)) = false := by decide) : PE X (.Call (.Name x p) [] [] pos) (tCall sp [] E tNil) := by
  obtain ⟨f, fd, ps, F, hm, kp, b⟩ := c.ex
  exact pe_call0 F (hr.mono hk) hg hm kp b .nil hx hdb
/-- a def that lets nothing out -/
theorem pe_c (c : Cal X.prog X.w X.K X.mg X.base CX0 k x sp) (hr : Room j X.A) (hk : k ≤ j) (hg : Gl X x) (ha : PA X (e :: es) t)
    (hdb : (x == ("__debug__" : Str)) = false := by decide) (he : starEach (e :: es) X.env = (false, eval e X.env) :: starEach es X.env := by rfl) (hpl : (backTo pos (starEach es X.env)).any (·.1) = false := by rfl) :
    PE X (.Call (.Name x p) (e :: es) [] pos) (tCall sp [] E0 t) := pe_cE c hr hk pass0 hg ha hdb he hpl
theorem pe_c0 (c : Cal X.prog X.w X.K X.mg X.base CX0 k x sp) (hr : Room j X.A) (hk : k ≤ j) (hg : Gl X x)
    (hdb : (x == ("__debug__" : Str)) = false := by decide) : PE X (.Call (.Name x p) [] [] pos) (tCall sp [] E0 tNil) := pe_cE0 c hr hk pass0 hg hdb
end
section
variable {X : Cx} {k j : Nat} {x : Str} {sp : Sp} {p pos : Pos} {e : Expr} {es : List Expr} {t : TA} {C : CXT} {E : L2.St → XK}
/-- a call within a try -/
theorem pe_cS (c : Cal X.prog X.w X.K X.mg X.base C k x sp) (hr : Room j X.A) (hk : k ≤ j) (hg : Gl X x) (hx : ∀ σ, PassesAt C X σ (E σ)) (ha : PA X (e :: es) t)
    (hdb : (x == ("__debug__" : Str)) = false := by decide) (he : starEach (e :: es) X.env = (false, eval e X.env) :: starEach es X.env := by rfl) (hpl : (backTo pos (starEach es X.env)).any (·.1) = false := by rfl) : PE X (.Call (.Name x p) (e :: es) [] pos) (tCallS sp E t) := by
  obtain ⟨f, fd, ps, F, hm, kp, b⟩ := c.ex
  exact pe_callS F (hr.mono hk) hg hm kp b hx ha hdb he hpl
end
theorem hu64 {A : Around} {k : Nat} (hr : Room k A) : A.units + 64 < cLine := by have := hr.un; omega
/-! ### numbers -/
theorem small64 {n : Nat} (h : n ≤ 1000000) : n ≤ sizeLine := Nat.le_trans h (by decide)
theorem small64' {n : Nat} (h : n ≤ 1000000) : n < sizeLine := Nat.lt_of_le_of_lt h (by decide)
theorem shl1 {j : Int} (h : 0 ≤ j) (h2 : j ≤ 100000) : CShl 1 j := by
  obtain ⟨n, rfl⟩ := Int.eq_ofNat_of_zero_le h
  exact shl_ok (n := 1) (by decide) (by omega)
theorem shlN {i j : Int} (hi : i.natAbs < 2 ^ 1000) (h : 0 ≤ j) (h2 : j ≤ 100000) : CShl i j := by
  obtain ⟨n, rfl⟩ := Int.eq_ofNat_of_zero_le h
  exact shl_ok (n := 1000) hi (by omega)
theorem pow_pos2 (k : Nat) : (0 : Int) < 2 ^ k := PySem.W.kbt_pos k
/-! ### heaps -/
theorem Same.new {H : Hp} {p : Addr} {o : HO} (h : H p = none) : Same H (upd H p o) := fun b x e => by
  rw [upd_ne (ne_of_none e h)]; exact e
theorem SqL.new {K : PySem.W.Frag} {H : Hp} {p : Addr} {xs : List V} : SqL K (upd H p (.lst xs)) p xs := .inl (.inl upd_same)
theorem SqT.new {K : PySem.W.Frag} {H : Hp} {p : Addr} {xs : List V} : SqT K (upd H p (.tup xs)) p xs := .inl (.inl upd_same)

/-! ### operators in the words that the readings like -/
section
variable {X : Cx}
/-- i << j, i of a usual size -/
theorem op_shlS : OpR X (binaryOp .LShift) (fun x y H Q => ∃ i j : Int, x = .int i ∧ y = .int j ∧ (i.natAbs < 2 ^ 1000 ∧ 0 ≤ j ∧ j ≤ 100000) ∧ Q (.int (i * 2 ^ j.toNat)) H) := by
  intro pins s σ H x y v u Q I rx ry h
  obtain ⟨i, j, rfl, rfl, ⟨c0, c1, c2⟩, q⟩ := h
  exact op_shlW pins s σ H _ _ v u Q I rx ry ⟨i, j, rfl, rfl, shlN c0 c1 c2, q⟩
theorem nat_small {i : Int} (h : i.natAbs ≤ 18446744073709551616) : i.natAbs < 2 ^ 1000 := Nat.lt_of_le_of_lt h (by decide +kernel)
/-- 1 << j -/
theorem op_shl1 : OpR X (binaryOp .LShift) (fun x y H Q => ∃ j : Int, x = .int 1 ∧ y = .int j ∧ (0 ≤ j ∧ j ≤ 100000) ∧ Q (.int (2 ^ j.toNat)) H) := by
  intro pins s σ H x y v u Q I rx ry h
  obtain ⟨j, rfl, rfl, ⟨c1, c2⟩, q⟩ := h
  refine op_shlW pins s σ H _ _ v u Q I rx ry ⟨1, j, rfl, rfl, shl1 c1 c2, ?_⟩
  show Q (.int (1 * 2 ^ j.toNat)) H
  rw [Int.one_mul]; exact q
end
/-- isinstance(x, T) of a value of a type of its own -/
theorem isi_int {K : PySem.W.Frag} {H : Hp} {i : Int} {Q : VK} (q : Q (.bl true) H) : rIsi K [.int i, .ty "int"] H Q := ⟨.int i, .ty "int", _, _, true, rfl, .ty _, .base (.int _), kit_ty (by decide +kernel), q⟩
theorem isi_int_bool {K : PySem.W.Frag} {H : Hp} {i : Int} {Q : VK} (q : Q (.bl false) H) : rIsi K [.int i, .ty "bool"] H Q := ⟨.int i, .ty "bool", _, _, false, rfl, .ty _, .base (.int _), kit_ty (by decide +kernel), q⟩
theorem isi_list {K : PySem.W.Frag} {H : Hp} {a : Addr} {xs : List V} {Q : VK} (h : H a = some (.lst xs)) (q : Q (.bl true) H) : rIsi K [.ref a, .ty "list"] H Q := ⟨.ref a, .ty "list", _, _, true, rfl, .ty _, .base (.lst h), kit_ty (by decide +kernel), q⟩
theorem isi_tup {K : PySem.W.Frag} {H : Hp} {a : Addr} {xs : List V} {Q : VK} (h : H a = some (.tup xs)) (q : Q (.bl true) H) : rIsi K [.ref a, .ty "tuple"] H Q := ⟨.ref a, .ty "tuple", _, _, true, rfl, .ty _, .base (.tup h), kit_ty (by decide +kernel), q⟩
theorem isi_str {K : PySem.W.Frag} {H : Hp} {z : Str} {Q : VK} (q : Q (.bl true) H) : rIsi K [.str z, .ty "str"] H Q := ⟨.str z, .ty "str", _, _, true, rfl, .ty _, .base (.str _), kit_ty (by decide +kernel), q⟩
/-! ### lists of ints -/
theorem at_ints {ns : List Int} {k : Nat} (h : k < ns.length) : atI (ns.map V.int) (k : Int) = some (.int (ns.getD k 0)) := atI_nat (by
  rw [List.getElem?_map, List.getElem?_eq_getElem h, List.getD_eq_getElem?_getD, List.getElem?_eq_getElem h]; rfl)
theorem cut_to (xs : List V) (k : Nat) : cutV xs none (some (k : Int)) = xs.take k := by
  unfold cutV
  rw [HT.sIx_nat, HT.sIx_none, List.drop_zero, Nat.sub_zero]
  rcases Nat.le_total k xs.length with h | h
  · rw [Nat.min_eq_left h]
  · rw [Nat.min_eq_right h, List.take_length, List.take_of_length_le h]
theorem cut_from (xs : List V) (k : Nat) : cutV xs (some (k : Int)) none = xs.drop k := by
  unfold cutV
  rw [HT.sIx_nat, HT.sIx_none]
  rcases Nat.le_total k xs.length with h | h
  · rw [Nat.min_eq_left h]; exact List.take_of_length_le (by rw [List.length_drop]; exact Nat.le_refl _)
  · rw [Nat.min_eq_right h, Nat.sub_self, List.take_zero, List.drop_eq_nil_of_le h]
/-! ### a reading, gone through as far as it goes by sight -/
local macro_rules | `(tactic| walk_at "side") => `(tactic| first
  | (show _ = _; rfl)
  | (show (0 : Int) < _; first | omega | exact pow_pos2 _)
  | (show (0 : Int) ≤ _; omega)
  | (show (0 : Int) ≤ _ ∧ _; constructor <;> omega)
  | (show (0 : Int) < _ ∧ _; constructor <;> omega)
  | (show (_ < _ ∧ _ < _) ∨ (_ < _ ∧ _ < _); first | exact .inl ⟨by omega, by omega⟩ | exact .inr ⟨by omega, by omega⟩))
local macro_rules | `(tactic| walk_at "loop") => `(tactic| (show ∃ W : (Nat → Nat → L2.St → Hp → Prop), _))
local macro_rules | `(tactic| walk_at "go1") => `(tactic| (fail_if_success walk_at "loop"); first
  | refine And.intro (show (_ : Int) ≤ _ by omega) ?_
  | refine ⟨_, rfl, ?_⟩
  | refine ⟨_, _, rfl, rfl, ?_⟩
  | refine ⟨_, rfl, rfl, ?_⟩
  | refine .inl ⟨_, rfl, ?_⟩
  | refine ⟨_, .ty "int", _, _, true, rfl, .ty _, .base (.int _), kit_ty (by decide +kernel), ?_⟩
  | refine ⟨_, .ty "bool", _, _, false, rfl, .ty _, .base (.int _), kit_ty (by decide +kernel), ?_⟩
  | refine ⟨_, .ty "bool", _, _, false, rfl, .ty _, .base (.str _), kit_ty (by decide +kernel), ?_⟩
  | refine ⟨_, .ty "str", _, _, true, rfl, .ty _, .base (.str _), kit_ty (by decide +kernel), ?_⟩
  | refine ⟨_, .ty "list", _, _, true, rfl, .ty _, .base (.lst (by assumption)), kit_ty (by decide +kernel), ?_⟩
  | refine ⟨_, .ty "tuple", _, _, true, rfl, .ty _, .base (.tup (by assumption)), kit_ty (by decide +kernel), ?_⟩
  | refine ⟨_, _, rfl, .inl (by assumption), ?_⟩
  | refine ⟨_, _, rfl, .inr (by assumption), ?_⟩
  | refine ⟨_, _, rfl, ?_⟩
  | refine ⟨_, _, _, _, rfl, rfl, by assumption, at_ints (by omega), ?_⟩
  | refine ⟨_, _, _, _, rfl, rfl, by assumption, rfl, ?_⟩
  | refine iteF ?_
  | refine iteT ?_
  | refine iteNS rfl ?_
  | (refine And.intro ?h1 ?h2; case h1 => first
    | walk_at "side"
    | assumption
    | (show (_ : Nat) ≤ _; omega)
    | (show (_ : Int) ≤ _; omega)
    | (show (_ : Int) < _; omega)
    | (show 0 ≤ sizeLine; decide)
    | (show 1 ≤ sizeLine; decide)
    | (show 2 ≤ sizeLine; decide)
    | (show 3 ≤ sizeLine; decide)
    | (show 4 ≤ sizeLine; decide)
    | (show (_ : Nat) ≤ _; decide)))
local macro_rules | `(tactic| walk_at "go") => `(tactic| repeat walk_at "go1")
/-! ### tests that read alone, loops -/
theorem tor_b {t u : TT} {σ : L2.St} {H : Hp} {Q : Bool → Hp → Prop} (b1 b2 : Bool) (h1 : ∀ Q, Q b1 H → t σ H Q) (h2 : ∀ Q, Q b2 H → u σ H Q) (q : Q (b1 || b2) H) : tOr t u σ H Q := by
  refine h1 _ ?_
  cases b1 with
  | true => rw [if_pos rfl]; exact q
  | false => rw [if_neg (by decide)]; exact h2 _ q
theorem tand_b {t u : TT} {σ : L2.St} {H : Hp} {Q : Bool → Hp → Prop} (b1 b2 : Bool) (h1 : ∀ Q, Q b1 H → t σ H Q) (h2 : ∀ Q, Q b2 H → u σ H Q) (q : Q (b1 && b2) H) : tAnd t u σ H Q := by
  refine h1 _ ?_
  cases b1 with
  | true => rw [if_pos rfl]; exact h2 _ q
  | false => rw [if_neg (by decide)]; exact q
theorem while_ev {c : TT} {tb : TS} {D : Ends} {σ : L2.St} {H : Hp} (Pv : L2.St → Hp → Prop) (μ : L2.St → Hp → Nat) (h0 : Pv σ H)
    (hs : ∀ σ H, Pv σ H → ∃ b : Bool, (∀ Q, Q b H → c σ H Q) ∧ (b = true → tb { D with nx := fun σ' H' => Pv σ' H' ∧ μ σ' H' < μ σ H, ct := fun σ' H' => Pv σ' H' ∧ μ σ' H' < μ σ H, bk := D.nx } σ H) ∧ (b = false → D.nx σ H)) : tWhile c tb D σ H := by
  refine ⟨fun m σ H => m = μ σ H ∧ Pv σ H, ⟨_, rfl, h0⟩, ?_⟩
  rintro m σ H ⟨rfl, p⟩
  obtain ⟨b, h1, h2, h3⟩ := hs σ H p
  refine h1 _ ?_
  cases b with
  | true => exact ⟨_, fun σ' H' ⟨p', l⟩ => ⟨_, l, rfl, p'⟩, h2 rfl⟩
  | false => exact h3 rfl
/-- the loops' bookkeeping, with what follows and what returns told apart -/
theorem for_listD {K : PySem.W.Frag} {a : Addr} {xs : List V} {g : TG} {tb : TS} {nx : L2.St → Hp → Prop} {rt : VK} {σ : L2.St} {H : Hp} (Pv : Nat → L2.St → Hp → Prop) (h0 : Pv 0 σ H) (hl : ∀ i σ H, i ≤ xs.length → Pv i σ H → SqL K H a xs)
    (hs : ∀ i x σ H, xs[i]? = some x → Pv i σ H → g x σ H fun σ2 H2 => tb { nx := Pv (i + 1), rt := rt, bk := nx, ct := Pv (i + 1) } σ2 H2) (hd : ∀ σ H, Pv xs.length σ H → nx σ H) :
    ∃ W : Nat → Nat → L2.St → Hp → Prop, (∃ m, W 0 m σ H) ∧ ∀ i m σ H, W i m σ H → ((Itl K a).stop i H ∧ nx σ H) ∨ ((Itl K a).go i H ∧ ∃ N : L2.St → Hp → Prop, (∀ σ' H', N σ' H' → ∃ m', m' < m ∧ W (i + 1) m' σ' H') ∧
      ∀ x H', (Itl K a).yld i H x H' → g x σ H' fun σ2 H2 => tb { nx := N, rt := rt, bk := nx, ct := N } σ2 H2) := for_list (D := { nx := nx, rt := rt }) Pv h0 hl hs hd
theorem for_rangeD {lo : Int} {n : Nat} {g : TG} {tb : TS} {nx : L2.St → Hp → Prop} {rt : VK} {σ : L2.St} {H : Hp} (Pv : Nat → L2.St → Hp → Prop) (h0 : Pv 0 σ H)
    (hs : ∀ i σ H, i < n → Pv i σ H → g (.int (lo + i)) σ H fun σ2 H2 => tb { nx := Pv (i + 1), rt := rt, bk := nx, ct := Pv (i + 1) } σ2 H2) (hd : ∀ σ H, Pv n σ H → nx σ H) :
    ∃ W : Nat → Nat → L2.St → Hp → Prop, (∃ m, W 0 m σ H) ∧ ∀ i m σ H, W i m σ H → ((Itr lo n).stop i H ∧ nx σ H) ∨ ((Itr lo n).go i H ∧ ∃ N : L2.St → Hp → Prop, (∀ σ' H', N σ' H' → ∃ m', m' < m ∧ W (i + 1) m' σ' H') ∧
      ∀ x H', (Itr lo n).yld i H x H' → g x σ H' fun σ2 H2 => tb { nx := N, rt := rt, bk := nx, ct := N } σ2 H2) := for_range (D := { nx := nx, rt := rt }) Pv h0 hs hd
/-! ### a comprehension that makes f of each item -/
theorem lc_map {K : PySem.W.Frag} {a : Addr} {xs : List V} {j : Nat} {te : TE} {σ : L2.St} {H1 : Hp} {D : Addr} {Qd : Hp → Prop} (f : V → V) (hD : H1 D = none) (hS : SqL K H1 a xs) (hn : xs.length ≤ 100000)
    (hs : ∀ x H Q, x ∈ xs → Same H1 H → (∀ H', Same H H' → Q (f x) H') → te ((σ.set j none).set j (some x)) H Q) (hd : ∀ H, Same H1 H → H D = some (.lst (xs.map f)) → Qd H) :
    ∃ W : Nat → Nat → Hp → Prop, (∃ m, W 0 m (upd H1 D (.lst []))) ∧ ∀ i m H, W i m H →
      ((Itl K a).stop i H ∧ Qd H) ∨ ((Itl K a).go i H ∧ ∃ Nx : Hp → Prop, (∀ H', Nx H' → ∃ m', m' < m ∧ W (i + 1) m' H') ∧ ∀ x H', (Itl K a).yld i H x H' → gName j x (wipe σ [j]) H' fun σ2 H2 => wipe σ2 [j] = wipe σ [j] ∧ tYes σ2 H2 fun b H3 =>
        if b = true then te σ2 H3 fun y H4 => ∃ acc, H4 D = some (.lst acc) ∧ acc.length < sizeLine ∧ Nx (upd H4 D (.lst (acc ++ [y]))) else Nx H3) := by
  refine lc_list (xs := xs) (fun i H => Same H1 H ∧ H D = some (.lst ((xs.take i).map f))) ⟨Same.new hD, by rw [upd_same]; rfl⟩ (fun i H _ h => h.1.seq hS) (fun i x H hx h => ?_) (fun H h => hd H h.1 (by rw [List.take_length] at h; exact h.2))
  have hi : i < xs.length := (List.getElem?_eq_some_iff.mp hx).1
  refine ⟨?_, ?_⟩
  · show (((σ.set j none).set j (some x)).set j none) = σ.set j none
    rw [List.set_set, List.set_set]
  · simp only [tYes, if_true]
    refine hs x H _ (List.mem_of_getElem? hx) h.1 fun H' s' => ?_
    refine ⟨_, s' _ _ h.2, ?_, fun b o e => ?_, ?_⟩
    · rw [List.length_map, List.length_take]; exact small64' (by omega)
    · have nb : b ≠ D := fun z => by rw [z, hD] at e; cases e
      rw [upd_ne nb]; exact s' _ _ (h.1 _ _ e)
    · rw [upd_same, List.take_add_one, hx, List.map_append]; rfl

/-! ### own errors with fields -/
/-- what the top has written of an own error's class, whose base is ValueError by some way -/
structure ExK (K : PySem.W.Frag) (mg : Str → Option Value) (x : Str) (C : Addr) : Prop where
  g : mg x = some (.ref C)
  T : OexC K C
  ga : PySem.W.findIn K (.ref C) "__getattribute__" = some (some (.builtin "BaseException.__getattribute__"))
  gg : PySem.W.findIn K (.ref C) "__getattr__" = some none
  hd : PySem.W.hasDictIn K C = true
  ca : PySem.W.findIn K (.ref C) "__class__" = some (some (.builtin "object.__class__"))
  sp : PySem.W.specialIn K (.builtin "object.__class__") "__get__" = some (some (.builtin "getset_descriptor.__get__"))
  tk : PySem.W.takesIn K (.builtin "object.__class__") = some true
  mr : PySem.W.mroIn K C (.type "object") = some true
theorem ExK.xf {K : PySem.W.Frag} {mg : Str → Option Value} {x : Str} {C : Addr} (k : ExK K mg x C) : XfC K C := ⟨k.ga, k.gg, k.T.exC, k.hd⟩
def spI1 (K : PySem.W.Frag) (C : Addr) (a : Str) : Sp := fun vs H Q _ => ∃ (s : Addr) (v : V), vs = [.ref s, v] ∧ H s = some (exo s C none) ∧
  ∀ d, H d = none → d ≠ s → Q .non (upd (upd H d (exd d [(a, v)])) s (exo s C (some d)))
def spI2 (K : PySem.W.Frag) (C : Addr) (a b : Str) : Sp := fun vs H Q _ => ∃ (s : Addr) (v u : V), vs = [.ref s, v, u] ∧ H s = some (exo s C none) ∧
  ∀ d, H d = none → d ≠ s → Q .non (upd (upd (upd H d (exd d [(a, v)])) s (exo s C (some d))) d (exd d [(b, u), (a, v)]))
theorem del_upd {H : Hp} {s d : Addr} {o o' : HO} (hs : H s = none) (hd : H d = none) (ne : d ≠ s) {K : Hp} (hK : ∀ b, b ≠ s → b ≠ d → K b = H b) : Same H (upd (del K s) d o) := fun b x e => by
  have nd : b ≠ d := ne_of_none e hd
  have ns : b ≠ s := ne_of_none e hs
  rw [upd_ne nd, del_ne ns, hK b ns nd]; exact e
/-- X(v): an error flies whose dict, new at d, holds the field; all else stands -/
theorem fly1 {K : PySem.W.Frag} {C : Addr} {a : Str} {v : V} {H : Hp} {Q : XK} (h : ∀ d Hf, Same H Hf → Hf d = some (.xd [(a, v)]) → Q (.ref C) (some d) Hf) :
    ([v] : List V).length ≤ 1000 ∧ ∀ s, H s = none → spI1 K C a (.ref s :: ([v] ++ [])) (upd H s (exo s C none))
      (fun v H2 => v = .non ∧ ∃ (d : Addr) (fs : List (Str × V)), H2 s = some (exo s C (some d)) ∧ H2 d = some (exd d fs) ∧ H d = none ∧ Q (.ref C) (some d) (upd (del H2 s) d (.xd fs))) (fun _ _ _ => False) := by
  refine ⟨by show 1 ≤ 1000; decide, fun s hs => ⟨s, v, rfl, upd_same, fun d hd ne => ⟨rfl, d, [(a, v)], upd_same, ?_, ?_, ?_⟩⟩⟩
  · rw [upd_ne ne, upd_same]
  · rw [upd_ne ne] at hd; exact hd
  · have hd' : H d = none := by rw [upd_ne ne] at hd; exact hd
    refine h d _ (del_upd (o' := .lst []) hs hd' ne fun b nb nd => ?_) upd_same
    rw [upd_ne nb, upd_ne nd, upd_ne nb]
theorem fly2 {K : PySem.W.Frag} {C : Addr} {a b : Str} {v u : V} {H : Hp} {Q : XK} (h : ∀ d Hf, Same H Hf → Hf d = some (.xd [(b, u), (a, v)]) → Q (.ref C) (some d) Hf) :
    ([v, u] : List V).length ≤ 1000 ∧ ∀ s, H s = none → spI2 K C a b (.ref s :: ([v, u] ++ [])) (upd H s (exo s C none))
      (fun v H2 => v = .non ∧ ∃ (d : Addr) (fs : List (Str × V)), H2 s = some (exo s C (some d)) ∧ H2 d = some (exd d fs) ∧ H d = none ∧ Q (.ref C) (some d) (upd (del H2 s) d (.xd fs))) (fun _ _ _ => False) := by
  refine ⟨by show 2 ≤ 1000; decide, fun s hs => ⟨s, v, u, rfl, upd_same, fun d hd ne => ⟨rfl, d, [(b, u), (a, v)], ?_, upd_same, ?_, ?_⟩⟩⟩
  · rw [upd_ne ne.symm, upd_same]
  · rw [upd_ne ne] at hd; exact hd
  · have hd' : H d = none := by rw [upd_ne ne] at hd; exact hd
    refine h d _ (del_upd (o' := .lst []) hs hd' ne fun b nb nd => ?_) upd_same
    rw [upd_ne nd, upd_ne nb, upd_ne nd, upd_ne nb]
section
variable {P : Program} {w : World} {K : PySem.W.Frag} {mg : Str → Option Value} {base : Heap} {C f : Addr} {fd : FuncData} {qual : Str}
/-- an __init__ that stores its one parameter, its two parameters, under their names -/
theorem init1 {st : Stmt} {a : Str} (F : L2.Fun K "__init__" qual st f fd) (S : FnScope ["self", a] ["self", a] (defScope st)) (T : OexC K C) (na : PySem.W.findIn K (.ref C) a = some none) {p1 p2 p3 p4 : Pos} (hb : defBody st = [.Assign [.Attribute (.Name "self" p1) a p2] (.Name a p3) p4])
    (va : Vis (defScope st) a) (vs : Vis (defScope st) "self") (d1 : (a == ("__debug__" : Str)) = false) (d2 : (a == ("__classdict__" : Str)) = false) : FnOk P w K mg base CX0 1 f fd ["self", a] (spI1 K C a) := by
  refine F.ok S (fun vs H Q E h => ?_) (fun cdv A outer s H vs Q E hr h => ?_)
  · obtain ⟨s, v, rfl, _⟩ := h; rfl
  · obtain ⟨s, v, rfl, hs, q⟩ := h
    rw [hb]
    refine ⟨_, pss_one (ps_ost (pe_var (i := 0) rfl (by assumption)) (pe_var (i := 1) rfl (by assumption) d1 d2)), ?_⟩
    exact ⟨_, rfl, _, rfl, s, C, rfl, T, na, .inl ⟨hs, fun d hd ne => q d hd ne⟩⟩
theorem init2 {st : Stmt} {a b : Str} (F : L2.Fun K "__init__" qual st f fd) (S : FnScope ["self", a, b] ["self", a, b] (defScope st)) (T : OexC K C) (na : PySem.W.findIn K (.ref C) a = some none) (nb : PySem.W.findIn K (.ref C) b = some none) {p1 p2 p3 p4 q1 q2 q3 q4 : Pos}
    (hb : defBody st = [.Assign [.Attribute (.Name "self" p1) a p2] (.Name a p3) p4, .Assign [.Attribute (.Name "self" q1) b q2] (.Name b q3) q4])
    (va : Vis (defScope st) a) (vb : Vis (defScope st) b) (vs : Vis (defScope st) "self") (d1 : (a == ("__debug__" : Str)) = false) (d2 : (a == ("__classdict__" : Str)) = false) (d3 : (b == ("__debug__" : Str)) = false) (d4 : (b == ("__classdict__" : Str)) = false) : FnOk P w K mg base CX0 1 f fd ["self", a, b] (spI2 K C a b) := by
  refine F.ok S (fun vs H Q E h => ?_) (fun cdv A outer s H vs Q E hr h => ?_)
  · obtain ⟨s, v, u, rfl, _⟩ := h; rfl
  · obtain ⟨s, v, u, rfl, hs, q⟩ := h
    rw [hb]
    refine ⟨_, pss_cons (ps_ost (pe_var (i := 0) rfl (by assumption)) (pe_var (i := 1) rfl (by assumption) d1 d2)) (pss_one (ps_ost (pe_var (i := 0) rfl (by assumption)) (pe_var (i := 2) rfl (by assumption) d3 d4))), ?_⟩
    refine ⟨_, rfl, _, rfl, s, C, rfl, T, na, .inl ⟨hs, fun d hd ne => ?_⟩⟩
    exact ⟨_, rfl, _, rfl, s, C, rfl, T, nb, .inr ⟨d, _, upd_same, by rw [upd_ne ne, upd_same], (by show 1 ≤ 900; decide), q d hd ne⟩⟩
end
/-- isinstance(e, c), e the caught error at a, of the class D, its dict at dd -/
theorem call_isX {X : Cx} {a D : Addr} {oe : Obj} {cls : Value} {d : Option Addr} {pn : List (Addr × Obj)} (hz : Zc cls d oe) (hf : ∃ vs, oe.data = .fields vs) {x : Str} (k : ExK X.K X.mg x D) : CallR (X.suite a ((a, oe) :: pn)) (.builtin "isinstance")
    (fun xs H Q => ∃ (c : V) (cv : Value) (b : Bool) (dd : Addr) (fs : List (Str × V)), xs = [.ref a, c] ∧ cls = .ref D ∧ d = some dd ∧ H dd = some (.xd fs) ∧ RelV c cv ∧ (∀ u, RelV c u → u = cv) ∧ PySem.W.kitOne X.K (.ref D) cv = some b ∧ Q (.bl b) H) := by
  intro pins s σ H xs us Q I r h
  obtain ⟨c, cv, b, dd, fs, rfl, rfl, rfl, ea, _, hcv, e, q⟩ := h
  obtain ⟨u1, u2, rfl, r1, r2⟩ := vals2 r
  cases r1
  have ec := hcv _ r2
  subst ec
  obtain ⟨hget, _⟩ := I.pin (a, oe) (List.mem_append.mpr (.inl List.mem_cons_self))
  obtain ⟨vs, hv⟩ := hf
  have hx : ObjOk X.prog X.w H s.heap dd (.xd fs) := I.hok dd _ ea
  obtain ⟨mA, ⟨od, es, ep, ho, hl⟩, hr⟩ := hx
  have J : PySem.W.InstAt s.heap a oe D (some od) := ⟨hget, hz.1, by unfold PySem.W.notCls; rw [hv] <;> rfl, by rw [hz.2]; exact ho⟩
  have hc : (PySem.W.clsIn X.K D).isSome = true := by
    have h := k.hd
    unfold PySem.W.hasDictIn at h
    cases hh : PySem.W.clsIn X.K D with
    | none => rw [hh] at h; cases h
    | some cd => rfl
  exact PySem.W.kia_one (PySem.W.kitx_exc hc k.ga k.gg k.T.exC k.ca k.sp k.tk k.mr) I.kIn J e (fun z => nomatch z) fun tk => ⟨.bl b, H, I.kept (t' := tk) fun _ _ z => z, rfl, q⟩
/-- what isinstance and an except clause ask of own classes -/
theorem kit_self {K : PySem.W.Frag} {C : Addr} : PySem.W.kitOne K (.ref C) (.ref C) = some true := by
  unfold PySem.W.kitOne
  rw [if_pos (by exact beq_self_eq_true (Value.ref C))]
theorem kit_two {K : PySem.W.Frag} {D C : Addr} {b : Bool} (ne : (Value.ref D == Value.ref C) = false) (hd : PySem.W.hasDictIn K C = true) (ht : PySem.W.typeIn K (.ref C) = some (.type "type")) (hs : PySem.W.subIn K (.ref D) (.ref C) = some b) : PySem.W.kitOne K (.ref D) (.ref C) = some b := by
  have hc : (PySem.W.clsIn K C).isSome = true := by
    unfold PySem.W.hasDictIn at hd
    cases hh : PySem.W.clsIn K C with
    | none => rw [hh] at hd; cases hd
    | some cd => rfl
  unfold PySem.W.kitOne PySem.W.kitCls
  rw [ne, if_neg (by decide)]
  show (if ((PySem.W.clsIn K C).isSome && PySem.W.typeIn K (.ref C) == some (.type "type")) = true then PySem.W.subIn K (.ref D) (.ref C) else none) = some b
  rw [hc, ht, hs]; rfl
theorem kit_ve {K : PySem.W.Frag} {D : Addr} (hs : PySem.W.subIn K (.ref D) (.type "ValueError") = some true) : PySem.W.kitOne K (.ref D) (.type "ValueError") = some true := by
  unfold PySem.W.kitOne PySem.W.kitCls
  rw [show (Value.ref D == Value.type "ValueError") = false from rfl, if_neg (by decide)]
  show (if PySem.W.kitMeta "ValueError" = true then PySem.W.subIn K (.ref D) (.type "ValueError") else none) = some true
  rw [if_pos (by decide +kernel), hs]

/-! ### the text by places -/
def top (i : Nat) : Stmt := PySem.Challenge.pw_wasmhost_k22_numbers_in_words.main.body.getD i (.Pass ⟨0, 0, 0, 0⟩)
abbrev s_digit_of : Stmt := top 2
abbrev s_number_of : Stmt := top 3
abbrev s__law_is_integer : Stmt := top 5
abbrev s__law_char : Stmt := top 6
abbrev s__law_digits : Stmt := top 7
abbrev s__law_value : Stmt := top 8
abbrev s__law_due : Stmt := top 9
abbrev s__law_right : Stmt := top 10
abbrev s_law : Stmt := top 11
theorem sc_digit_of : FnScope ["character", "digit"] ["character"] (defScope s_digit_of) := ⟨rfl, rfl, rfl, by decide +kernel, rfl, by decide +kernel, by decide +kernel⟩
theorem sc_number_of : FnScope ["word", "base", "digits", "number", "character", "digit"] ["word"] (defScope s_number_of) := ⟨rfl, rfl, rfl, by decide +kernel, rfl, by decide +kernel, by decide +kernel⟩
theorem sc__law_is_integer : FnScope ["actual"] ["actual"] (defScope s__law_is_integer) := ⟨rfl, rfl, rfl, by decide +kernel, rfl, by decide +kernel, by decide +kernel⟩
theorem sc__law_char : FnScope ["number", "chars"] ["number"] (defScope s__law_char) := ⟨rfl, rfl, rfl, by decide +kernel, rfl, by decide +kernel, by decide +kernel⟩
theorem sc__law_digits : FnScope ["number", "base", "cell", "digits", "text", "k"] ["number", "base", "cell"] (defScope s__law_digits) := ⟨rfl, rfl, rfl, by decide +kernel, rfl, by decide +kernel, by decide +kernel⟩
theorem sc__law_value : FnScope ["text", "base", "number", "char", "at"] ["text", "base"] (defScope s__law_value) := ⟨rfl, rfl, rfl, by decide +kernel, rfl, by decide +kernel, by decide +kernel⟩
theorem sc__law_due : FnScope ["word"] ["word"] (defScope s__law_due) := ⟨rfl, rfl, rfl, by decide +kernel, rfl, by decide +kernel, by decide +kernel⟩
theorem sc__law_right : FnScope ["word", "told", "due"] ["word"] (defScope s__law_right) := ⟨rfl, rfl, rfl, by decide +kernel, rfl, by decide +kernel, by decide +kernel⟩
theorem sc_law : FnScope ["script", "word", "k", "cell", "base", "at"] ["script"] (defScope s_law) := ⟨rfl, rfl, rfl, by decide +kernel, rfl, by decide +kernel, by decide +kernel⟩
/-- where the own classes stand -/
structure Cs where
  u : Unit
/-- what the top leaves: built-in names that nothing binds, own classes -/
structure Tp (w : World) (K : PySem.W.Frag) (mg : Str → Option Value) (cs : Cs) : Prop where
  m_abs : mg "abs" = none
  m_bool : mg "bool" = none
  m_int : mg "int" = none
  m_isinstance : mg "isinstance" = none
  m_len : mg "len" = none
  m_min : mg "min" = none
  m_range : mg "range" = none
  w_DIGITS : ∃ t, mg "DIGITS" = some (.str ("0123456789abcdef" : Str) t)
/-! ### lists of ints that are the same -/
theorem dp_all {K : PySem.W.Frag} {H : Hp} : ∀ ns : List Int, DpAll K H (ns.map V.int) (ns.map PyData.int)
  | [] => .nil
  | _ :: r => .cons (.int _) (dp_all r)
theorem canlay_ints : ∀ ns : List Int, PyData.canLayAll0 (ns.map PyData.int) = true
  | [] => rfl
  | _ :: r => by
    show PyData.canLayAll0 (PyData.int _ :: r.map PyData.int) = true
    simp only [PyData.canLayAll0, PyData.canLay0, canlay_ints r, Bool.and_self]
theorem depth_ints : ∀ ns : List Int, PyData.depthAll (ns.map PyData.int) ≤ 63
  | [] => by simp [PyData.depthAll]
  | _ :: r => by
    have h := depth_ints r
    simp [PyData.depthAll, PyData.depth] at h ⊢
    exact h
theorem shaped_ints (ns : List Int) : SeqAt.shaped (.list (ns.map PyData.int)) = true := by
  unfold SeqAt.shaped
  rw [Bool.and_eq_true]
  refine ⟨?_, decide_eq_true ?_⟩
  · simp only [PyData.canLay0, canlay_ints]
  · have h := depth_ints ns
    simp only [PyData.depth] at h ⊢
    omega
theorem eqD_same {K : PySem.W.Frag} {H : Hp} {x y : V} {d : PyData} {Q : VK} (h1 : Dp K H x d) (h2 : Dp K H y d) (s : SeqAt.shaped d = true) (q : Q (.bl true) H) : rEqD K x y H Q :=
  ⟨d, d, h1, h2, s, s, by rw [SeqAt.eqv_refl d (SeqAt.canLay_of_shaped s)]; exact q⟩
theorem neD_same {K : PySem.W.Frag} {H : Hp} {x y : V} {d : PyData} {Q : VK} (h1 : Dp K H x d) (h2 : Dp K H y d) (s : SeqAt.shaped d = true) (q : Q (.bl false) H) : rNeD K x y H Q :=
  ⟨d, d, h1, h2, s, s, by rw [SeqAt.eqv_refl d (SeqAt.canLay_of_shaped s)]; exact q⟩
theorem dp_ints {K : PySem.W.Frag} {H : Hp} {a : Addr} {ns : List Int} (h : SqL K H a (ns.map V.int)) : Dp K H (.ref a) (.list (ns.map PyData.int)) := .lst h (dp_all ns)
theorem eqv_ints (ns : List Int) : PyData.eqv (.list (ns.map PyData.int)) (.list (ns.map PyData.int)) = true := SeqAt.eqv_refl _ (SeqAt.canLay_of_shaped (shaped_ints ns))

/-! ### ifs and tests whose answer is known -/
theorem ifNe {x y : Int} {A B : Prop} (e : x = y) (h : B) : if (!decide (V.int x = V.int y)) = true then A else B := by
  subst e
  rw [decide_eq_true rfl]
  exact h
theorem ifNeN {x y : Int} {A B : Prop} (e : ¬ x = y) (h : A) : if (!decide (V.int x = V.int y)) = true then A else B := by
  rw [decide_eq_false (fun z => e (V.int.inj z))]
  exact h
theorem eqT {x y : Int} (e : x = y) : decide (V.int x = V.int y) = true := decide_eq_true (congrArg V.int e)
theorem qT {x y : Int} {Q : VK} {H : Hp} (e : x = y) (h : Q (.bl true) H) : Q (.bl (decide (V.int x = V.int y))) H := by rw [eqT e]; exact h
theorem orV {t u : TE} {σ : L2.St} {H : Hp} {Q : VK} (b1 b2 : Bool) (h1 : ∀ Q, (∀ H', Same H H' → Q (.bl b1) H') → t σ H Q) (h2 : ∀ H' Q, Q (.bl b2) H' → u σ H' Q) (q : ∀ H', Same H H' → Q (.bl (b1 || b2)) H') : tOrV t u σ H Q := by
  refine h1 _ fun H' s => ⟨b1, rfl, ?_⟩
  cases b1 with
  | true => rw [if_pos rfl]; exact q _ s
  | false => rw [if_neg (by decide)]; exact h2 _ _ (q _ s)
theorem andV {t u : TE} {σ : L2.St} {H : Hp} {Q : VK} (b1 b2 : Bool) (h1 : ∀ Q, Q (.bl b1) H → t σ H Q) (h2 : ∀ Q, Q (.bl b2) H → u σ H Q) (q : Q (.bl (b1 && b2)) H) : tAndV t u σ H Q := by
  refine h1 _ ⟨b1, rfl, ?_⟩
  cases b1 with
  | true => rw [if_pos rfl]; exact h2 _ q
  | false => rw [if_neg (by decide)]; exact q
theorem orF {t u : TT} {σ : L2.St} {H : Hp} {Q : Bool → Hp → Prop} (h1 : ∀ Q, (∀ H', Same H H' → Q false H') → t σ H Q) (h2 : ∀ H', Same H H' → ∀ Q, (∀ H'', Same H' H'' → Q false H'') → u σ H' Q) (q : ∀ H', Same H H' → Q false H') : tOr t u σ H Q := by
  refine h1 _ fun H' s => ?_
  rw [if_neg (by decide)]
  exact h2 _ s _ fun H'' s' => q _ (s.trans s')
theorem neF {x y : Int} {Q : Bool → Hp → Prop} {H : Hp} (e : x = y) (h : Q false H) : Q (!decide (V.int x = V.int y)) H := by rw [eqT e]; exact h
theorem ifEq {x y : Int} {A B : Prop} (e : x = y) (h : A) : if decide (V.int x = V.int y) = true then A else B := by rw [eqT e]; exact h
theorem ifEqN {x y : Int} {A B : Prop} (e : ¬ x = y) (h : B) : if decide (V.int x = V.int y) = true then A else B := by
  rw [decide_eq_false (fun z => e (V.int.inj z))]; exact h
theorem ifS {x y : Str} {A B : Prop} (e : x = y) (h : A) : if decide (V.str x = V.str y) = true then A else B := by rw [if_pos (decide_eq_true (congrArg V.str e))]; exact h
theorem ifSN {x y : Str} {A B : Prop} (e : ¬ x = y) (h : B) : if decide (V.str x = V.str y) = true then A else B := by
  rw [if_neg (fun z => e (V.str.inj (of_decide_eq_true z)))]; exact h
theorem ifNeS {x y : Str} {A B : Prop} (e : x = y) (h : B) : if (!decide (V.str x = V.str y)) = true then A else B := by
  subst e
  rw [decide_eq_true rfl]
  exact h
theorem qTS {x y : Str} {Q : VK} {H : Hp} (e : x = y) (h : Q (.bl true) H) : Q (.bl (decide (V.str x = V.str y))) H := by rw [decide_eq_true (congrArg V.str e)]; exact h
theorem call_isiS {X : Cx} {a : Addr} {ps : List (Addr × Obj)} : CallR (X.suite a ps) (.builtin "isinstance") (rIsi X.K) := call_isi
theorem for_tupE {K : PySem.W.Frag} {a : Addr} {xs : List V} {g : TG} {tb : TS} {nx : L2.St → Hp → Prop} {rt : VK} {σ : L2.St} {H : Hp} (Pv : Nat → L2.St → Hp → Prop) (h0 : Pv 0 σ H) (hl : ∀ i σ H, i ≤ xs.length → Pv i σ H → SqT K H a xs)
    (hs : ∀ i x σ H, xs[i]? = some x → Pv i σ H → g x σ H fun σ2 H2 => tb { nx := Pv (i + 1), rt := rt, bk := nx, ct := Pv (i + 1) } σ2 H2) (hd : ∀ σ H, Pv xs.length σ H → nx σ H) :
    ∃ W : Nat → Nat → L2.St → Hp → Prop, (∃ m, W 0 m σ H) ∧ ∀ i m σ H, W i m σ H → ((Itt K a).stop i H ∧ nx σ H) ∨ ((Itt K a).go i H ∧ ∃ N : L2.St → Hp → Prop, (∀ σ' H', N σ' H' → ∃ m', m' < m ∧ W (i + 1) m' σ' H') ∧
      ∀ x H', (Itt K a).yld i H x H' → g x σ H' fun σ2 H2 => tb { nx := N, rt := rt, bk := nx, ct := N } σ2 H2) := for_tup (D := { nx := nx, rt := rt }) Pv h0 hl hs hd
theorem isi_bool {K : PySem.W.Frag} {H : Hp} {b : Bool} {Q : VK} (q : Q (.bl true) H) : rIsi K [.bl b, .ty "bool"] H Q := ⟨.bl b, .ty "bool", _, _, true, rfl, .ty _, .base (.bl _), kit_ty (by decide +kernel), q⟩
theorem ne_of_nd {x y : Int} (h : (!decide (V.int x = V.int y)) = true) : ¬ x = y := fun e => by
  rw [decide_eq_true (congrArg V.int e)] at h; cases h
theorem eq_of_nd {x y : Int} (h : ¬ (!decide (V.int x = V.int y)) = true) : x = y := by
  by_cases e : x = y
  · exact e
  · exact absurd (by rw [decide_eq_false (fun z => e (V.int.inj z))]; rfl) h
theorem eq_of_d {x y : Int} (h : decide (V.int x = V.int y) = true) : x = y := V.int.inj (of_decide_eq_true h)
theorem ne_of_d {x y : Int} (h : ¬ decide (V.int x = V.int y) = true) : ¬ x = y := fun e => h (decide_eq_true (congrArg V.int e))
theorem sign_of (d : Nat) : -1 ≤ ([1, -1] : List Int).getD d 0 ∧ ([1, -1] : List Int).getD d 0 ≤ 1 := by
  match d with
  | 0 => decide
  | 1 => decide
  | _ + 2 => exact (by decide : (-1 : Int) ≤ 0 ∧ (0 : Int) ≤ 1)
section
variable {X : Cx} {s : Shared} {H : Hp} {sc : Scope} {en : Env} {fp : List Addr}
theorem ix_listB : IxR (X.blk s H sc en fp) (L2.rIxL X.K) := ix_list
theorem ix_tupB : IxR (X.blk s H sc en fp) (L2.rIxT X.K) := ix_tup
theorem call_isiB : CallR (X.blk s H sc en fp) (.builtin "isinstance") (rIsi X.K) := call_isi
end
theorem andIf {t : TE} {σ : L2.St} {H : Hp} {Q : VK} {b1 b2 : Bool} (h : ∀ Q', Q' (.bl b2) H → t σ H Q') (q : Q (.bl (b1 && b2)) H) : if b1 = true then t σ H Q else Q (.bl false) H := by
  cases b1 with
  | true => exact h _ q
  | false => exact q
theorem op_eqDS {X : Cx} {a : Addr} {ps : List (Addr × Obj)} (hu : X.A.units + 64 < cLine) : OpR (X.suite a ps) (compareOp .Eq) (rEqD X.K) := op_eqD (X := X.suite a ps) hu
theorem isi_of {K : PySem.W.Frag} {H : Hp} {x : V} {n : String} {t : Value} {b : Bool} {Q : VK} (h : TyX K H x t) (k : PySem.W.kitOne K t (.type n) = some b) (q : Q (.bl b) H) : rIsi K [x, .ty n] H Q := ⟨x, .ty n, t, _, b, rfl, .ty _, h, k, q⟩

/-! ### lists of texts, heaps that grow -/
theorem newE {H H' : Hp} {p : Addr} {xs : List V} {zs : List Str} (h : H p = none) (e : upd H p (.lst xs) = H') (hx : xs = zs.map V.str) : Same H H' ∧ H' p = some (.lst (zs.map V.str)) := by
  subst e hx
  exact ⟨Same.new h, upd_same⟩
theorem at_strs {zs : List Str} {k : Nat} (h : k < zs.length) : ∃ z ∈ zs, atI (zs.map V.str) (k : Int) = some (.str z) :=
  ⟨zs[k], List.getElem_mem h, atI_nat (by rw [List.getElem?_map, List.getElem?_eq_getElem h]; rfl)⟩
theorem none_of {H H' : Hp} {p : Addr} (s : Same H H') (h : H' p = none) : H p = none := by
  cases e : H p with
  | none => rfl
  | some o => rw [s _ _ e] at h; cases h
theorem catE {H : Hp} {l b : Addr} {zs ys : List Str} {Q : VK} (hl : H l = some (.lst (zs.map V.str))) (hb : H b = some (.lst (ys.map V.str))) (hn : zs.length + ys.length ≤ 1000) (q : ∀ p H', Same H H' → H p = none → H' p = some (.lst ((zs ++ ys).map V.str)) → Q (.ref p) H') : rCat (.ref l) (.ref b) H Q :=
  ⟨l, b, _, _, rfl, rfl, hl, hb, by rw [List.length_map, List.length_map]; exact small64 (by omega), fun p hp => q p _ (Same.new hp) hp (by rw [upd_same, List.map_append])⟩
def LstS (H : Hp) (Q : VK) (zs : List Str) : Prop := ∀ p H', Same H H' → H p = none → H' p = some (.lst (zs.map V.str)) → Q (.ref p) H'
theorem lc_mapS {K : PySem.W.Frag} {a : Addr} {zs : List Str} {j : Nat} {te : TE} {σ : L2.St} {H1 : Hp} {D : Addr} {Qd : Hp → Prop} (f : Str → Str) (hD : H1 D = none) (hS : SqL K H1 a (zs.map V.str)) (hn : zs.length ≤ 100000)
    (hs : ∀ z H Q, z ∈ zs → Same H1 H → (∀ H', Same H H' → Q (.str (f z)) H') → te ((σ.set j none).set j (some (.str z))) H Q) (hd : ∀ H, Same H1 H → H D = some (.lst ((zs.map f).map V.str)) → Qd H) :
    ∃ W : Nat → Nat → Hp → Prop, (∃ m, W 0 m (upd H1 D (.lst []))) ∧ ∀ i m H, W i m H →
      ((Itl K a).stop i H ∧ Qd H) ∨ ((Itl K a).go i H ∧ ∃ Nx : Hp → Prop, (∀ H', Nx H' → ∃ m', m' < m ∧ W (i + 1) m' H') ∧ ∀ x H', (Itl K a).yld i H x H' → gName j x (wipe σ [j]) H' fun σ2 H2 => wipe σ2 [j] = wipe σ [j] ∧ tYes σ2 H2 fun b H3 =>
        if b = true then te σ2 H3 fun y H4 => ∃ acc, H4 D = some (.lst acc) ∧ acc.length < sizeLine ∧ Nx (upd H4 D (.lst (acc ++ [y]))) else Nx H3) := by
  refine lc_map (f := fun v => match v with | .str z => .str (f z) | v => v) hD hS (by rw [List.length_map]; exact hn) (fun x H2 Q2 hx s2 q2 => ?_) (fun H2 s2 hD2 => ?_)
  · obtain ⟨z, hz, rfl⟩ := List.mem_map.mp hx
    exact hs z H2 Q2 hz s2 q2
  · refine hd H2 s2 ?_
    rw [hD2, List.map_map, List.map_map]; rfl
theorem flat_strs : ∀ zs : List Str, (zs.map V.str).all flatV = true
  | [] => rfl
  | _ :: r => flat_strs r
theorem inV_mem (z : Str) (zs : List Str) : inV (.str z) (zs.map V.str) = true ↔ z ∈ zs := by
  unfold inV
  rw [List.any_map, List.any_eq_true]
  constructor
  · rintro ⟨y, hy, e⟩
    have e' : (y == z) = true := e
    rw [← eq_of_beq e']; exact hy
  · intro h
    exact ⟨z, h, (beq_self_eq_true z : (z == z) = true)⟩

/-! ### texts by their codes -/
theorem pe_gstr {X : Cx} {x : Str} {p : Pos} {z : Str} (hg : Gl X x) (hm : ∃ t, X.mg x = some (.str z t)) (hdb : (x == ("__debug__" : Str)) = false := by decide) : PE X (.Name x p) (tC (.str z)) := by
  obtain ⟨t, h⟩ := hm
  exact pe_glob hg h ⟨t, rfl⟩ hdb
theorem for_strD {x : Str} {g : TG} {tb : TS} {nx : L2.St → Hp → Prop} {rt : VK} {σ : L2.St} {H : Hp} (Pv : Nat → L2.St → Hp → Prop) (h0 : Pv 0 σ H)
    (hs : ∀ i c σ H, x.cps.toList[i]? = some c → Pv i σ H → g (.str ⟨#[c]⟩) σ H fun σ2 H2 => tb { nx := Pv (i + 1), rt := rt, bk := nx, ct := Pv (i + 1) } σ2 H2) (hd : ∀ σ H, Pv x.cps.toList.length σ H → nx σ H) :
    ∃ W : Nat → Nat → L2.St → Hp → Prop, (∃ m, W 0 m σ H) ∧ ∀ i m σ H, W i m σ H → ((Its x).stop i H ∧ nx σ H) ∨ ((Its x).go i H ∧ ∃ N : L2.St → Hp → Prop, (∀ σ' H', N σ' H' → ∃ m', m' < m ∧ W (i + 1) m' σ' H') ∧
      ∀ y H', (Its x).yld i H y H' → g y σ H' fun σ2 H2 => tb { nx := N, rt := rt, bk := nx, ct := N } σ2 H2) := by
  have hz : x.cps.toList.length = x.cps.size := Array.length_toList
  refine ⟨fun i m σ H => m = x.cps.size - i ∧ i ≤ x.cps.size ∧ Pv i σ H, ⟨x.cps.size, by simp, Nat.zero_le _, h0⟩, ?_⟩
  rintro i m σ H ⟨rfl, hi, p⟩
  by_cases hlt : i < x.cps.size
  · refine .inr ⟨hlt, Pv (i + 1), fun σ' H' p' => ⟨x.cps.size - (i + 1), by omega, rfl, hlt, p'⟩, fun y H' w => ?_⟩
    obtain ⟨e, c, hc, ey⟩ := w
    subst e ey
    exact hs i c σ _ (by rw [Array.getElem?_toList]; exact hc) p
  · have e : i = x.cps.size := by omega
    subst e
    exact .inl ⟨Nat.le_refl _, hd σ H (by rw [hz]; exact p)⟩
def Asc (z : Str) : Prop := ∀ c ∈ z.cps.toList, c < 128
theorem Asc.add {a b : Str} (ha : Asc a) (hb : Asc b) : Asc (a ++ b) := fun c h => by
  have e : (a ++ b).cps.toList = a.cps.toList ++ b.cps.toList := Array.toList_append
  rw [e] at h
  rcases List.mem_append.mp h with h | h
  · exact ha c h
  · exact hb c h
theorem Asc.cut {a : Str} (ha : Asc a) (lo hi : Option Int) : Asc (cutS a lo hi) := fun c h => by
  have h' : c ∈ (a.cps.toList.drop (HT.sIx a.length 0 lo)).take (HT.sIx a.length a.length hi - HT.sIx a.length 0 lo) := h
  exact ha c (List.mem_of_mem_drop (List.mem_of_mem_take h'))
theorem str_of (l : List Nat) : (⟨l.toArray⟩ : Str).cps.toList = l := rfl
theorem str_ext {a b : Str} (h : a.cps.toList = b.cps.toList) : a = b := by
  cases a with
  | mk a => cases b with
    | mk b => exact congrArg Str.mk (Array.ext' h)
theorem len_cps (z : Str) : z.length = z.cps.toList.length := rfl
theorem add_nil (a : Str) : a ++ (⟨#[]⟩ : Str) = a := str_ext (by show (a.cps ++ #[]).toList = _; simp)
theorem nil_add (a : Str) : (⟨#[]⟩ : Str) ++ a = a := str_ext (by show (#[] ++ a.cps).toList = _; simp)
theorem cutS_to (z : Str) (k : Nat) : cutS z none (some (k : Int)) = ⟨(z.cps.toList.take k).toArray⟩ := by
  unfold cutS
  rw [HT.sIx_nat, HT.sIx_none, List.drop_zero, Nat.sub_zero]
  congr 2
  rcases Nat.le_total k z.length with h | h
  · rw [Nat.min_eq_left h]
  · rw [Nat.min_eq_right h, List.take_of_length_le (by rw [← len_cps]; exact Nat.le_refl _), List.take_of_length_le (by rw [← len_cps]; exact h)]
theorem cutS_from (z : Str) (k : Nat) : cutS z (some (k : Int)) none = ⟨(z.cps.toList.drop k).toArray⟩ := by
  unfold cutS
  rw [HT.sIx_nat, HT.sIx_none]
  congr 2
  rcases Nat.le_total k z.length with h | h
  · rw [Nat.min_eq_left h]; exact List.take_of_length_le (by rw [List.length_drop, ← len_cps]; exact Nat.le_refl _)
  · rw [Nat.min_eq_right h, Nat.sub_self, List.take_zero, List.drop_eq_nil_of_le (by rw [← len_cps]; exact h)]
theorem starts_cut (w y : Str) : Txt.startswith w y = decide (cutS w none (some (y.length : Int)) = y) := by
  have e : Builtin.Str.subAt w y 0 = decide (w.cps.toList.take y.length = y.cps.toList) := by
    unfold Builtin.Str.subAt
    rw [Bool.eq_iff_iff, beq_iff_eq, decide_eq_true_iff, ← Array.toList_inj]
    simp
  unfold Txt.startswith
  rw [e, cutS_to, Bool.eq_iff_iff, Bool.and_eq_true, decide_eq_true_iff, decide_eq_true_iff, decide_eq_true_iff]
  constructor
  · rintro ⟨_, h⟩
    exact str_ext h
  · intro h
    have h' : w.cps.toList.take y.length = y.cps.toList := congrArg (fun z : Str => z.cps.toList) h
    refine ⟨?_, h'⟩
    have := congrArg List.length h'
    rw [List.length_take, ← len_cps, ← len_cps] at this
    omega
theorem asc_dec {z : Str} (h : (z.cps.toList.all fun c => decide (c < 128)) = true) : Asc z := fun c hc => of_decide_eq_true (List.all_eq_true.mp h c hc)
theorem emp_iff {z : Str} : z = "" ↔ z.cps.toList = [] := by
  constructor
  · rintro rfl; decide +kernel
  · intro h
    exact str_ext (h.trans (by decide +kernel))
theorem ixCharA {z : Str} {c : Int} {Q : VK} {H : Hp} (h0 : 0 < z.length) (h1 : z.length ≤ 1000) (hA : Asc z) (q : ∀ y : Str, y.length = 1 → Asc y → Q (.str y) H) : (0 : Int) < z.length ∧ rIxS (.str z) (.int (c % (z.length : Int))) H Q := by
  refine ⟨by omega, ?_⟩
  obtain ⟨k, ek, hk⟩ : ∃ k : Nat, c % (z.length : Int) = (k : Int) ∧ k < z.length := ⟨(c % (z.length : Int)).toNat, by have := Int.emod_nonneg c (show (z.length : Int) ≠ 0 by omega); omega, by have := Int.emod_lt_of_pos c (show (0 : Int) < z.length by omega); have := Int.emod_nonneg c (show (z.length : Int) ≠ 0 by omega); omega⟩
  rw [ek]
  have hk' : k < z.cps.toList.length := hk
  refine ⟨z, _, z.cps.toList[k], rfl, rfl, small64 (by omega), atI_nat (List.getElem?_eq_getElem hk'), q _ rfl fun d hd => ?_⟩
  have e : d = z.cps.toList[k] := List.mem_singleton.mp hd
  rw [e]; exact hA _ (List.getElem_mem _)
theorem ixCharN {z : Str} {k : Nat} {Q : VK} {H : Hp} (hk : k < z.length) (h1 : z.length ≤ 1000) (hA : Asc z) (q : ∀ y : Str, y.length = 1 → Asc y → Q (.str y) H) : rIxS (.str z) (.int (k : Int)) H Q := by
  have hk' : k < z.cps.toList.length := hk
  refine ⟨z, _, z.cps.toList[k], rfl, rfl, small64 (by omega), atI_nat (List.getElem?_eq_getElem hk'), q _ rfl fun d hd => ?_⟩
  have e : d = z.cps.toList[k] := List.mem_singleton.mp hd
  rw [e]; exact hA _ (List.getElem_mem _)

/-! ### numbers in words -/
def dgv (c : Nat) : Int := if 48 ≤ c ∧ c ≤ 57 then (c : Int) - 48 else if 97 ≤ c ∧ c ≤ 102 then (c : Int) - 87 else if 65 ≤ c ∧ c ≤ 70 then (c : Int) - 55 else -1
def nv (b : Int) : List Nat → Int → Option Int
  | [], n => some n
  | c :: r, n => if dgv c < 0 ∨ dgv c ≥ b then none else nv b r (n * b + dgv c)
def nvS (b : Int) (z : Str) : Option Int := if z.cps.toList = [] then none else nv b z.cps.toList 0
def num (w : Str) : Option Int := if cutS w none (some 2) = "0x" then nvS 16 (cutS w (some 2) none) else nvS 10 w
def optI : Option Int → V
  | none => .non
  | some n => .int n
theorem dg_find : ∀ c < 128, Txt.find "0123456789abcdef" (Txt.lower ⟨#[c]⟩) = dgv c := by decide +kernel
theorem fd_10 : ∀ c < 128, (if Txt.find (cutS "0123456789abcdef" none (some 10)) ⟨#[c]⟩ < 0 then Txt.find (cutS "0123456789ABCDEF" none (some 10)) ⟨#[c]⟩ else Txt.find (cutS "0123456789abcdef" none (some 10)) ⟨#[c]⟩) = if dgv c < 10 then dgv c else -1 := by decide +kernel
theorem fd_16 : ∀ c < 128, (if Txt.find (cutS "0123456789abcdef" none (some 16)) ⟨#[c]⟩ < 0 then Txt.find (cutS "0123456789ABCDEF" none (some 16)) ⟨#[c]⟩ else Txt.find (cutS "0123456789abcdef" none (some 16)) ⟨#[c]⟩) = if dgv c < 16 then dgv c else -1 := by decide +kernel
theorem fd_val {b : Int} (hb : b = 10 ∨ b = 16) {c : Nat} (hc : c < 128) : (if Txt.find (cutS "0123456789abcdef" none (some b)) ⟨#[c]⟩ < 0 then Txt.find (cutS "0123456789ABCDEF" none (some b)) ⟨#[c]⟩ else Txt.find (cutS "0123456789abcdef" none (some b)) ⟨#[c]⟩) = if dgv c < b then dgv c else -1 := by
  rcases hb with rfl | rfl
  · exact fd_10 c hc
  · exact fd_16 c hc
def words22 : List Str := ["0", "00", "0x", "0x0", "x1", "-1", "+1", "1_0", "0X1", "a", "0xg", "$1", "10", "0x10", "9", "0xfF"]
theorem words_ok : ∀ z ∈ words22, Asc z ∧ z.length ≤ 1000 := by
  have h : (words22.all fun z => (z.cps.toList.all fun c => decide (c < 128)) && decide (z.length ≤ 1000)) = true := by decide +kernel
  intro z hz
  have := List.all_eq_true.mp h z hz
  rw [Bool.and_eq_true] at this
  exact ⟨asc_dec this.1, of_decide_eq_true this.2⟩
def sp_digit_of (K : PySem.W.Frag) (cs : Cs) : Sp := fun vs H Q _ => ∃ c : Nat, vs = [.str ⟨#[c]⟩] ∧ c < 128 ∧ (dgv c < 0 → Q .non H) ∧ (¬ dgv c < 0 → Q (.int (dgv c)) H)
def sp_number_of (K : PySem.W.Frag) (cs : Cs) : Sp := fun vs H Q _ => ∃ w : Str, vs = [.str w] ∧ Asc w ∧ w.length ≤ 1000 ∧ Q (optI (num w)) H
def sp__law_is_integer (K : PySem.W.Frag) (cs : Cs) : Sp := fun vs H Q _ => ∃ n : Int, vs = [.int n] ∧ Q (.bl true) H
def sp__law_char (K : PySem.W.Frag) (cs : Cs) : Sp := fun vs H Q _ => ∃ c : Int, vs = [.int c] ∧ ∀ z : Str, z.length = 1 → Asc z → Q (.str z) H
def sp__law_digits (K : PySem.W.Frag) (cs : Cs) : Sp := fun vs H Q _ => ∃ n b c : Int, vs = [.int n, .int b, .int c] ∧ (b = 10 ∨ b = 16) ∧ ∀ (z : Str) H', z.length ≤ 60 → Asc z → Same H H' → Q (.str z) H'
def sp__law_value (K : PySem.W.Frag) (cs : Cs) : Sp := fun vs H Q _ => ∃ (z : Str) (b : Int), vs = [.str z, .int b] ∧ (b = 10 ∨ b = 16) ∧ Asc z ∧ Q (optI (nvS b z)) H
def sp__law_due (K : PySem.W.Frag) (cs : Cs) : Sp := fun vs H Q _ => ∃ w : Str, vs = [.str w] ∧ Asc w ∧ w.length ≤ 1000 ∧ Q (optI (num w)) H
def sp__law_right (K : PySem.W.Frag) (cs : Cs) : Sp := fun vs H Q _ => ∃ w : Str, vs = [.str w] ∧ Asc w ∧ w.length ≤ 1000 ∧ Q (.bl true) H
def sp_lawK (K : PySem.W.Frag) : Sp := fun vs H Q _ => ∃ (a : Addr) (ns : List Int), vs = [.ref a] ∧ SqL K H a (ns.map V.int) ∧ ns.length ≤ 63 ∧ ∀ H', Q (.bl true) H'
abbrev sp_law (K : PySem.W.Frag) (_ : Cs) : Sp := sp_lawK K
section
variable {P : Program} {w : World} {K : PySem.W.Frag} {mg : Str → Option Value} {base : Heap} {cs : Cs}
theorem c_digit_of (D : Def K mg "digit_of" s_digit_of ["character"]) (T : Tp w K mg cs)  : Cal P w K mg base CX0 1 "digit_of" (sp_digit_of K cs) := by
  refine D.ok sc_digit_of (fun vs H Q E h => ?_) (fun f cdv A outer s H vs Q E hr h => ?_)
  · obtain ⟨c, rfl, _⟩ := h; rfl
  · obtain ⟨c, rfl, hc, q⟩ := h
    refine ⟨_, (pss_cons (ps_set (i := 1) sc_digit_of.nd rfl (by first | exact Or.inl rfl | exact Or.inr rfl) (pe_m1 PySem.F.slot_str_find PySem.F.type_str_find mt_find (pe_gstr (by rfl) T.w_DIGITS) (pe_lower (pv 0))))
      (pss_cons (ps_if (pt_cmpR op_lt (pv 1) pe_int (by first | rfl | exact nomark _)) (pss_one (ps_ret pe_non)) pss_nil)
      (pss_one (ps_ret (pv 1))))), ?_⟩
    refine ⟨⟨_, rfl⟩, ?_⟩
    refine ⟨_, rfl, ⟨_, rfl⟩, ?_⟩
    refine ⟨_, rfl, rfl, by show 1 ≤ 5592405; decide, ?_⟩
    refine ⟨_, _, rfl, rfl, ?_⟩
    rw [dg_find c hc]
    walk_at "go"
    refine ite2 (fun c => ?_) (fun c => ?_)
    · walk_at "go"
      exact q.1 (of_decide_eq_true c)
    · walk_at "go"
      exact q.2 (of_decide_eq_false (Bool.eq_false_iff.mpr c))
theorem c_number_of (D : Def K mg "number_of" s_number_of ["word"]) (T : Tp w K mg cs) (c_digit_of : Cal P w K mg base CX0 1 "digit_of" (sp_digit_of K cs)) : Cal P w K mg base CX0 2 "number_of" (sp_number_of K cs) := by
  refine D.ok sc_number_of (fun vs H Q E h => ?_) (fun f cdv A outer s H vs Q E hr h => ?_)
  · obtain ⟨z, rfl, _⟩ := h; rfl
  · obtain ⟨z, rfl, hA, hl, q⟩ := h
    refine ⟨_, (pss_cons (ps_set (i := 1) sc_number_of.nd rfl (by first | exact Or.inl rfl | exact Or.inr rfl) pe_int)
      (pss_cons (ps_set (i := 2) sc_number_of.nd rfl (by first | exact Or.inl rfl | exact Or.inr rfl) (pv 0))
      (C8.pss_cut (ps_if (pt_val (pe_m1 PySem.F.slot_str_startswith PySem.F.type_str_startswith mt_startswith (pv 0) pe_str)) (pss_cons (ps_set (i := 1) sc_number_of.nd rfl (by first | exact Or.inl rfl | exact Or.inr rfl) pe_int)
      (pss_one (ps_set (i := 2) sc_number_of.nd rfl (by first | exact Or.inl rfl | exact Or.inr rfl) (pe_slice sl_str (pv 0) (po_some pe_int) po_none)))) pss_nil)
      (pss_cons (ps_if (pt_cmpR op_eq (pv 2) pe_str (by first | rfl | exact nomark _)) (pss_one (ps_ret pe_non)) pss_nil)
      (pss_cons (ps_set (i := 3) sc_number_of.nd rfl (by first | exact Or.inl rfl | exact Or.inr rfl) pe_int)
      (pss_cons (ps_for PassesOwn.never rfl (pi_str (pv 2)) (pg_name (i := 4) sc_number_of.nd rfl (by first | exact Or.inl rfl | exact Or.inr rfl)) (pss_cons (ps_set (i := 5) sc_number_of.nd rfl (by first | exact Or.inl rfl | exact Or.inr rfl) (pe_c c_digit_of hr (by decide) (by rfl) (pa_cons (pv 4) pa_nil)))
      (pss_cons (ps_if (PW.pt (pw_or (pt_cmpR op_isN (pv 5) pe_non (by first | rfl | exact nomark _)) (pw_or1 (pt_cmpR op_ge (pv 5) (pv 1) (by first | rfl | exact nomark _))))) (pss_one (ps_ret pe_non)) pss_nil)
      (pss_one (ps_set (i := 3) sc_number_of.nd rfl (by first | exact Or.inl rfl | exact Or.inr rfl) (pe_op op_add (pe_op op_mul (pv 3) (pv 1)) (pv 5)))))))
      (pss_one (ps_ret (pv 3))))))))), ?_⟩
    walk_at "go"
    refine ⟨fun σ H2 => H = H2 ∧ ∃ (b : Int) (d : Str), (b = 10 ∨ b = 16) ∧ Asc d ∧ num z = nvS b d ∧ σ = [some (.str z), some (.int b), some (.str d), none, none, none], ?_, ?_⟩
    · walk_at "go"
      refine ⟨⟨_, rfl⟩, ?_⟩
      refine ⟨_, _, rfl, rfl, ?_⟩
      rw [starts_cut, show (("0x" : Str).length : Int) = 2 by decide +kernel]
      refine ⟨_, rfl, ite2 (fun c => ?_) (fun c => ?_)⟩
      · have c' : cutS z none (some 2) = "0x" := of_decide_eq_true c
        have hzS : z.length ≤ sizeLine := small64 (by omega)
        walk_at "go"
        exact ⟨16, _, .inr rfl, hA.cut _ _, if_pos c', rfl⟩
      · have c' : ¬ cutS z none (some 2) = "0x" := of_decide_eq_false (Bool.eq_false_iff.mpr c)
        exact ⟨rfl, 10, _, .inl rfl, hA, if_neg c', rfl⟩
    rintro _ _ ⟨rfl, b, d, hb, hd, eN, rfl⟩
    walk_at "go"
    refine ite2 (fun c => ?_) (fun c => ?_)
    · have e : d = "" := V.str.inj (of_decide_eq_true c)
      walk_at "go"
      rw [eN, show nvS b d = none from if_pos (emp_iff.mp e)] at q
      exact q
    have e : ¬ d.cps.toList = [] := fun z => c (decide_eq_true (congrArg V.str (emp_iff.mpr z)))
    rw [eN, show nvS b d = nv b d.cps.toList 0 from if_neg e] at q
    walk_at "go"
    refine for_strD (fun i σ H2 => H = H2 ∧ ∃ (n : Int) (o4 o5 : Option V), nv b (d.cps.toList.drop i) n = nv b d.cps.toList 0 ∧ σ = [some (.str z), some (.int b), some (.str d), some (.int n), o4, o5]) ⟨rfl, 0, _, _, rfl, rfl⟩ ?_ ?_
    · rintro i c _ _ hc ⟨rfl, n, o4, o5, hn, rfl⟩
      obtain ⟨hi, ec⟩ := List.getElem?_eq_some_iff.mp hc
      have hc8 : c < 128 := hd c (by rw [← ec]; exact List.getElem_mem _)
      rw [List.drop_eq_getElem_cons hi, ec] at hn
      walk_at "go"
      refine ⟨fun h0 => ?_, fun h0 => ?_⟩
      · have e1 : nv b d.cps.toList 0 = none := by rw [← hn]; exact if_pos (.inl h0)
        rw [e1] at q
        walk_at "go"
        exact q
      walk_at "go"
      refine ite2 (fun y => ?_) (fun y => ?_)
      · have c' : b ≤ dgv c := of_decide_eq_true y
        have e1 : nv b d.cps.toList 0 = none := by rw [← hn]; exact if_pos (.inr c')
        rw [e1] at q
        walk_at "go"
        exact q
      have c' : ¬ b ≤ dgv c := of_decide_eq_false (Bool.eq_false_iff.mpr y)
      have e1 : nv b (d.cps.toList.drop (i + 1)) (n * b + dgv c) = nv b d.cps.toList 0 := by rw [← hn]; exact (if_neg (fun z => z.elim h0 c')).symm
      walk_at "go"
      exact ⟨_, _, _, e1, rfl⟩
    · rintro _ _ ⟨rfl, n, o4, o5, hn, rfl⟩
      rw [List.drop_length] at hn
      rw [← hn] at q
      walk_at "go"
      exact q
theorem c__law_is_integer (D : Def K mg "_law_is_integer" s__law_is_integer ["actual"]) (T : Tp w K mg cs)  : Cal P w K mg base CX0 1 "_law_is_integer" (sp__law_is_integer K cs) := by
  refine D.ok sc__law_is_integer (fun vs H Q E h => ?_) (fun f cdv A outer s H vs Q E hr h => ?_)
  · obtain ⟨n, rfl, _⟩ := h; rfl
  · obtain ⟨n, rfl, q⟩ := h
    refine ⟨_, (pss_one (ps_ret (pe_and (pe_callB call_isi (by rfl) T.m_isinstance (by decide +kernel) (pa_cons (pv 0) (pa_cons (pe_bltn (v := .ty "int") (u := .type "int") (by rfl) T.m_int (by decide +kernel) rfl) pa_nil))) (pe_one (pe_not (pe_callB call_isi (by rfl) T.m_isinstance (by decide +kernel) (pa_cons (pv 0) (pa_cons (pe_bltn (v := .ty "bool") (u := .type "bool") (by rfl) T.m_bool (by decide +kernel) rfl) pa_nil)))))))), ?_⟩
    walk_at "go"
    exact q
theorem c__law_char (D : Def K mg "_law_char" s__law_char ["number"]) (T : Tp w K mg cs)  : Cal P w K mg base CX0 1 "_law_char" (sp__law_char K cs) := by
  refine D.ok sc__law_char (fun vs H Q E h => ?_) (fun f cdv A outer s H vs Q E hr h => ?_)
  · obtain ⟨c, rfl, _⟩ := h; rfl
  · obtain ⟨c, rfl, q⟩ := h
    refine ⟨_, (pss_cons (ps_set (i := 1) sc__law_char.nd rfl (by first | exact Or.inl rfl | exact Or.inr rfl) pe_str)
      (pss_one (ps_ret (pe_ix ix_str (pv 1) (pe_op op_mod (pe_callTy call_int1 (by rfl) T.m_int (by decide +kernel) (pa_cons (pv 0) pa_nil)) (pe_callB call_len_str (by rfl) T.m_len PySem.boot_len (pa_cons (pv 1) pa_nil))) (fun _ _ => rfl))))), ?_⟩
    walk_at "go"
    exact ixCharA (by decide +kernel) (by decide +kernel) (asc_dec (by decide +kernel)) q
theorem c__law_digits (D : Def K mg "_law_digits" s__law_digits ["number", "base", "cell"]) (T : Tp w K mg cs)  : Cal P w K mg base CX0 1 "_law_digits" (sp__law_digits K cs) := by
  refine D.ok sc__law_digits (fun vs H Q E h => ?_) (fun f cdv A outer s H vs Q E hr h => ?_)
  · obtain ⟨n, b, c, rfl, _⟩ := h; rfl
  · obtain ⟨n, b, c, rfl, hb, q⟩ := h
    refine ⟨_, (pss_cons (ps_set (i := 3) sc__law_digits.nd rfl (by first | exact Or.inl rfl | exact Or.inr rfl) (pe_ix ix_list (pe_lst (pa_cons pe_str (pa_cons pe_str pa_nil))) (pe_op op_mod (pe_callTy call_int1 (by rfl) T.m_int (by decide +kernel) (pa_cons (pv 2) pa_nil)) pe_int) (fun _ _ => rfl)))
      (pss_cons (ps_set (i := 4) sc__law_digits.nd rfl (by first | exact Or.inl rfl | exact Or.inr rfl) pe_str)
      (pss_cons (ps_for PassesOwn.never rfl (pi_range1 (by rfl) T.m_range (pa_cons pe_int pa_nil)) (pg_name (i := 5) sc__law_digits.nd rfl (by first | exact Or.inl rfl | exact Or.inr rfl)) (pss_cons (ps_set (i := 4) sc__law_digits.nd rfl (by first | exact Or.inl rfl | exact Or.inr rfl) (pe_op op_add_str (pe_ix ix_str (pv 3) (pe_op op_mod (pe_callTy call_int1 (by rfl) T.m_int (by decide +kernel) (pa_cons (pv 0) pa_nil)) (pv 1)) (fun _ _ => rfl)) (pv 4)))
      (pss_cons (ps_set (i := 0) sc__law_digits.nd rfl (by first | exact Or.inl rfl | exact Or.inr rfl) (pe_op op_fdiv (pv 0) (pv 1)))
      (pss_one (ps_if (pt_cmpR op_eq (pv 0) pe_int (by first | rfl | exact nomark _)) (pss_one (ps_ret (pv 4))) pss_nil)))))
      (pss_one (ps_ret (pv 4)))))), ?_⟩
    walk_at "go"
    intro e1 h1
    generalize x1 : upd H e1 _ = H1
    obtain ⟨s1, k1⟩ : Same H H1 ∧ H1 e1 = some (.lst ((["0123456789abcdef", "0123456789ABCDEF"] : List Str).map V.str)) := by subst x1; exact ⟨Same.new h1, upd_same⟩
    walk_at "go"
    obtain ⟨k, ek, hk⟩ : ∃ k : Nat, c % 2 = (k : Int) ∧ k < 2 := ⟨(c % 2).toNat, by omega, by omega⟩
    obtain ⟨dg, hdg, edg⟩ := at_strs (zs := ["0123456789abcdef", "0123456789ABCDEF"]) (k := k) hk
    have hdg2 : dg.length = 16 ∧ Asc dg := by
      rcases List.mem_cons.mp hdg with h | h
      · subst h; exact ⟨by decide +kernel, asc_dec (by decide +kernel)⟩
      · have h := List.mem_singleton.mp h
        subst h; exact ⟨by decide +kernel, asc_dec (by decide +kernel)⟩
    simp only [ek]
    refine ⟨_, _, _, _, rfl, rfl, SqL.of k1, edg, ?_⟩
    walk_at "go"
    refine for_rangeD (lo := 0) (n := 60) (fun i σ H2 => H1 = H2 ∧ ∃ (n : Int) (z : Str) (o : Option V), z.length = i ∧ Asc z ∧ σ = [some (.int n), some (.int b), some (.int c), some (.str dg), some (.str z), o]) ⟨rfl, _, _, _, by decide +kernel, asc_dec (by decide +kernel), rfl⟩ ?_ ?_
    · rintro i _ _ hi ⟨rfl, n, z, o, hz, hA, rfl⟩
      have hm : 0 ≤ n % b ∧ n % b < 16 ∧ 0 < b ∧ b < 18446744073709551616 := by rcases hb with rfl | rfl <;> omega
      obtain ⟨m, em, hm2⟩ : ∃ m : Nat, n % b = (m : Int) ∧ m < 16 := ⟨(n % b).toNat, by omega, by omega⟩
      walk_at "go"
      simp only [em]
      refine ixCharN (by omega) (by omega) hdg2.2 fun y hy hyA => ?_
      walk_at "go"
      refine ⟨small64 (by omega), ?_⟩
      have hyz : (y ++ z).length = i + 1 := by rw [PySem.Str.length_append]; omega
      walk_at "go"
      refine ite2 (fun c => ?_) (fun c => ?_)
      · walk_at "go"
        exact q _ _ (by omega) (hyA.add hA) s1
      · exact ⟨rfl, _, _, _, hyz, hyA.add hA, rfl⟩
    · rintro _ _ ⟨rfl, n, z, o, hz, hA, rfl⟩
      walk_at "go"
      exact q _ _ (by omega) hA s1
theorem c__law_value (D : Def K mg "_law_value" s__law_value ["text", "base"]) (T : Tp w K mg cs)  : Cal P w K mg base CX0 1 "_law_value" (sp__law_value K cs) := by
  refine D.ok sc__law_value (fun vs H Q E h => ?_) (fun f cdv A outer s H vs Q E hr h => ?_)
  · obtain ⟨z, b, rfl, _⟩ := h; rfl
  · obtain ⟨z, b, rfl, hb, hA, q⟩ := h
    refine ⟨_, (pss_cons (ps_set (i := 2) sc__law_value.nd rfl (by first | exact Or.inl rfl | exact Or.inr rfl) pe_int)
      (pss_cons (ps_for PassesOwn.never rfl (pi_str (pv 0)) (pg_name (i := 3) sc__law_value.nd rfl (by first | exact Or.inl rfl | exact Or.inr rfl)) (pss_cons (ps_set (i := 4) sc__law_value.nd rfl (by first | exact Or.inl rfl | exact Or.inr rfl) (pe_m1 PySem.F.slot_str_find PySem.F.type_str_find mt_find (pe_slice sl_str pe_str po_none (po_some (pv 1))) (pv 3)))
      (C8.pss_cut (ps_if (pt_cmpR op_lt (pv 4) pe_int (by first | rfl | exact nomark _)) (pss_one (ps_set (i := 4) sc__law_value.nd rfl (by first | exact Or.inl rfl | exact Or.inr rfl) (pe_m1 PySem.F.slot_str_find PySem.F.type_str_find mt_find (pe_slice sl_str pe_str po_none (po_some (pv 1))) (pv 3)))) pss_nil)
      (C8.pss_cut (ps_if (pt_cmpR op_lt (pv 4) pe_int (by first | rfl | exact nomark _)) (pss_one (ps_ret pe_non)) pss_nil)
      (pss_one (ps_set (i := 2) sc__law_value.nd rfl (by first | exact Or.inl rfl | exact Or.inr rfl) (pe_op op_add (pe_op op_mul (pv 2) (pv 1)) (pv 4))))))))
      (pss_cons (ps_if (pt_cmpR op_eq (pv 0) pe_str (by first | rfl | exact nomark _)) (pss_one (ps_ret pe_non)) pss_nil)
      (pss_one (ps_ret (pv 2)))))), ?_⟩
    have qn : ¬ z.cps.toList = [] → Q (optI (nv b z.cps.toList 0)) H := fun e => by rw [show nvS b z = nv b z.cps.toList 0 from if_neg e] at q; exact q
    walk_at "go"
    refine for_strD (fun i σ H2 => H = H2 ∧ ∃ (n : Int) (o3 o4 : Option V), nv b (z.cps.toList.drop i) n = nv b z.cps.toList 0 ∧ σ = [some (.str z), some (.int b), some (.int n), o3, o4]) ⟨rfl, 0, _, _, rfl, rfl⟩ ?_ ?_
    · rintro i c _ _ hc ⟨rfl, n, o3, o4, hn, rfl⟩
      obtain ⟨hi, ec⟩ := List.getElem?_eq_some_iff.mp hc
      have hc8 : c < 128 := hA c (by rw [← ec]; exact List.getElem_mem _)
      rw [List.drop_eq_getElem_cons hi, ec] at hn
      have hF := fd_val hb hc8
      have hz0 : ¬ z.cps.toList = [] := fun e => by rw [e] at hi; exact absurd hi (Nat.not_lt_zero _)
      walk_at "go"
      refine ⟨⟨_, rfl⟩, ?_⟩
      refine ⟨_, rfl, _, _, rfl, rfl, ?_⟩
      refine ⟨fun σ H2 => H = H2 ∧ σ = [some (.str z), some (.int b), some (.int n), some (.str ⟨#[c]⟩), some (.int (if dgv c < b then dgv c else -1))], ?_, ?_⟩
      · walk_at "go"
        rw [← hF]
        refine ite2 (fun y => ?_) (fun y => ?_)
        · rw [if_pos (of_decide_eq_true y)]
          walk_at "go"
          refine ⟨⟨_, rfl⟩, ?_⟩
          refine ⟨_, rfl, _, _, rfl, rfl, ?_⟩
          exact ⟨rfl, rfl⟩
        · rw [if_neg (of_decide_eq_false (Bool.eq_false_iff.mpr y))]
          exact ⟨rfl, rfl⟩
      rintro _ _ ⟨rfl, rfl⟩
      by_cases hd : dgv c < 0 ∨ dgv c ≥ b
      · have e1 : nv b z.cps.toList 0 = none := by rw [← hn]; exact if_pos hd
        rw [e1] at qn
        have ei : (if dgv c < b then dgv c else -1) < 0 := by
          rcases hd with h | h
          · split
            · exact h
            · decide
          · rw [if_neg (by omega)]; decide
        generalize (if dgv c < b then dgv c else -1) = at1 at ei
        refine ⟨fun σ H2 => False, ?_, fun _ _ z => z.elim⟩
        walk_at "go"
        refine ite2 (fun y => ?_) (fun y => absurd (decide_eq_true ei) y)
        walk_at "go"
        exact qn hz0
      · have e1 : nv b (z.cps.toList.drop (i + 1)) (n * b + dgv c) = nv b z.cps.toList 0 := by rw [← hn]; exact (if_neg hd).symm
        rw [if_pos (show dgv c < b by omega)]
        refine ⟨fun σ H2 => H = H2 ∧ σ = [some (.str z), some (.int b), some (.int n), some (.str ⟨#[c]⟩), some (.int (dgv c))], ?_, ?_⟩
        · walk_at "go"
          refine ite2 (fun y => absurd (of_decide_eq_true y) (by omega)) (fun y => ?_)
          exact ⟨rfl, rfl⟩
        rintro _ _ ⟨rfl, rfl⟩
        walk_at "go"
        exact ⟨_, _, _, e1, rfl⟩
    · rintro _ _ ⟨rfl, n, o3, o4, hn, rfl⟩
      rw [List.drop_length] at hn
      refine ⟨_, rfl, rfl, _, rfl, ite2 (fun c => ?_) (fun c => ?_)⟩
      · have e : z = "" := V.str.inj (of_decide_eq_true c)
        walk_at "go"
        rw [show nvS b z = none from if_pos (emp_iff.mp e)] at q
        exact q
      · have e : ¬ z.cps.toList = [] := fun y => c (decide_eq_true (congrArg V.str (emp_iff.mpr y)))
        rw [show nvS b z = nv b z.cps.toList 0 from if_neg e, ← hn] at q
        walk_at "go"
        exact q
theorem c__law_due (D : Def K mg "_law_due" s__law_due ["word"]) (T : Tp w K mg cs) (c__law_value : Cal P w K mg base CX0 1 "_law_value" (sp__law_value K cs)) : Cal P w K mg base CX0 2 "_law_due" (sp__law_due K cs) := by
  refine D.ok sc__law_due (fun vs H Q E h => ?_) (fun f cdv A outer s H vs Q E hr h => ?_)
  · obtain ⟨z, rfl, _⟩ := h; rfl
  · obtain ⟨z, rfl, hA, hl, q⟩ := h
    refine ⟨_, (pss_cons (ps_if (pt_cmpR op_eq (pe_slice sl_str (pv 0) po_none (po_some pe_int)) pe_str (by first | rfl | exact nomark _)) (pss_one (ps_ret (pe_c c__law_value hr (by decide) (by rfl) (pa_cons (pe_slice sl_str (pv 0) (po_some pe_int) po_none) (pa_cons pe_int pa_nil))))) pss_nil)
      (pss_one (ps_ret (pe_c c__law_value hr (by decide) (by rfl) (pa_cons (pv 0) (pa_cons pe_int pa_nil)))))), ?_⟩
    have hzS : z.length ≤ sizeLine := small64 (by omega)
    walk_at "go"
    refine ite2 (fun c => ?_) (fun c => ?_)
    · have c' : cutS z none (some 2) = "0x" := V.str.inj (of_decide_eq_true c)
      rw [show num z = _ from if_pos c'] at q
      walk_at "go"
      exact ⟨.inr rfl, hA.cut _ _, q⟩
    · have c' : ¬ cutS z none (some 2) = "0x" := fun y => c (decide_eq_true (congrArg V.str y))
      rw [show num z = _ from if_neg c'] at q
      walk_at "go"
      exact ⟨.inl rfl, hA, q⟩
theorem c__law_right (D : Def K mg "_law_right" s__law_right ["word"]) (T : Tp w K mg cs) (c_number_of : Cal P w K mg base CX0 2 "number_of" (sp_number_of K cs)) (c__law_due : Cal P w K mg base CX0 2 "_law_due" (sp__law_due K cs)) (c__law_is_integer : Cal P w K mg base CX0 1 "_law_is_integer" (sp__law_is_integer K cs)) : Cal P w K mg base CX0 3 "_law_right" (sp__law_right K cs) := by
  refine D.ok sc__law_right (fun vs H Q E h => ?_) (fun f cdv A outer s H vs Q E hr h => ?_)
  · obtain ⟨z, rfl, _⟩ := h; rfl
  · obtain ⟨z, rfl, hA, hl, q⟩ := h
    refine ⟨_, (pss_cons (ps_set (i := 1) sc__law_right.nd rfl (by first | exact Or.inl rfl | exact Or.inr rfl) (pe_c c_number_of hr (by decide) (by rfl) (pa_cons (pv 0) pa_nil)))
      (pss_cons (ps_set (i := 2) sc__law_right.nd rfl (by first | exact Or.inl rfl | exact Or.inr rfl) (pe_c c__law_due hr (by decide) (by rfl) (pa_cons (pv 0) pa_nil)))
      (pss_cons (ps_if (pt_cmpR op_isN (pv 2) pe_non (by first | rfl | exact nomark _)) (pss_one (ps_ret (pe_cmpR op_isN (pv 1) pe_non (by first | rfl | exact nomark _)))) pss_nil)
      (pss_one (ps_ret (pe_and (pe_c c__law_is_integer hr (by decide) (by rfl) (pa_cons (pv 1) pa_nil)) (pe_one (pe_cmpR op_eq (pv 1) (pv 2) (by first | rfl | exact nomark _))))))))), ?_⟩
    refine ⟨_, rfl, z, rfl, hA, hl, ?_⟩
    refine ⟨_, rfl, z, rfl, hA, hl, ?_⟩
    generalize num z = r
    cases r with
    | none =>
      walk_at "go"
      exact q
    | some r =>
      walk_at "go"
      rw [show decide (optI (some r) = optI (some r)) = true from decide_eq_true rfl]
      exact q
theorem c_law {f : Addr} {fd : FuncData} (D : L2.Fun K "law" "law" s_law f fd) (T : Tp w K mg cs) (c__law_right : Cal P w K mg base CX0 3 "_law_right" (sp__law_right K cs)) (c__law_digits : Cal P w K mg base CX0 1 "_law_digits" (sp__law_digits K cs)) (c__law_char : Cal P w K mg base CX0 1 "_law_char" (sp__law_char K cs)) : FnOk P w K mg base CX0 4 f fd ["script"] (sp_law K cs) := by
  refine D.ok sc_law (fun vs H Q E h => ?_) (fun cdv A outer s H vs Q E hr h => ?_)
  · obtain ⟨a, ns, rfl, _⟩ := h; rfl
  · obtain ⟨a, ns, rfl, hS, hlen, q⟩ := h
    refine ⟨_, (pss_cons (ps_for PassesOwn.never rfl (pi_list (pe_lst (pa_cons pe_str (pa_cons pe_str (pa_cons pe_str (pa_cons pe_str (pa_cons pe_str (pa_cons pe_str (pa_cons pe_str (pa_cons pe_str (pa_cons pe_str (pa_cons pe_str (pa_cons pe_str (pa_cons pe_str (pa_cons pe_str (pa_cons pe_str (pa_cons pe_str (pa_cons pe_str pa_nil)))))))))))))))))) (pg_name (i := 1) sc_law.nd rfl (by first | exact Or.inl rfl | exact Or.inr rfl)) (pss_one (ps_if (pt_not (pt_val (pe_c c__law_right hr (by decide) (by rfl) (pa_cons (pv 1) pa_nil)))) (pss_one (ps_ret pe_bl)) pss_nil)))
      (pss_cons (ps_for PassesOwn.never rfl (pi_range1 (by rfl) T.m_range (pa_cons (pe_callB (call_min2 rfl) (by rfl) T.m_min (by decide +kernel) (pa_cons (pe_callB call_len_seq (by rfl) T.m_len PySem.boot_len (pa_cons (pv 0) pa_nil)) (pa_cons pe_int pa_nil))) pa_nil)) (pg_name (i := 2) sc_law.nd rfl (by first | exact Or.inl rfl | exact Or.inr rfl)) (pss_cons (ps_set (i := 3) sc_law.nd rfl (by first | exact Or.inl rfl | exact Or.inr rfl) (pe_callB call_abs (by rfl) T.m_abs (by decide +kernel) (pa_cons (pe_callTy call_int1 (by rfl) T.m_int (by decide +kernel) (pa_cons (pe_ix ix_list (pv 0) (pv 2) (fun _ _ => rfl)) pa_nil)) pa_nil)))
      (pss_cons (ps_set (i := 4) sc_law.nd rfl (by first | exact Or.inl rfl | exact Or.inr rfl) (pe_op op_add pe_int (pe_op op_mul pe_int (pe_op op_mod (pe_callTy call_int1 (by rfl) T.m_int (by decide +kernel) (pa_cons (pv 3) pa_nil)) pe_int))))
      (pss_cons (ps_set (i := 1) sc_law.nd rfl (by first | exact Or.inl rfl | exact Or.inr rfl) (pe_op op_add_str (pe_slice sl_str pe_str po_none (po_some (pe_op op_mod (pe_op op_fdiv (pe_callTy call_int1 (by rfl) T.m_int (by decide +kernel) (pa_cons (pv 3) pa_nil)) pe_int) pe_int))) (pe_c c__law_digits hr (by decide) (by rfl) (pa_cons (pe_op op_mod (pe_op op_fdiv (pe_callTy call_int1 (by rfl) T.m_int (by decide +kernel) (pa_cons (pv 3) pa_nil)) pe_int) (pe_op op_pow pe_int pe_int)) (pa_cons (pv 4) (pa_cons (pe_op op_fdiv (pv 3) pe_int) pa_nil))))))
      (C8.pss_cut (ps_if (pt_cmpR op_eq (pv 4) pe_int (by first | rfl | exact nomark _)) (pss_one (ps_set (i := 1) sc_law.nd rfl (by first | exact Or.inl rfl | exact Or.inr rfl) (pe_op op_add_str pe_str (pv 1)))) pss_nil)
      (pss_cons (ps_set (i := 5) sc_law.nd rfl (by first | exact Or.inl rfl | exact Or.inr rfl) (pe_op op_mod (pe_op op_fdiv (pe_callTy call_int1 (by rfl) T.m_int (by decide +kernel) (pa_cons (pv 3) pa_nil)) pe_int) (pe_op op_add (pe_callB call_len_str (by rfl) T.m_len PySem.boot_len (pa_cons (pv 1) pa_nil)) pe_int)))
      (C8.pss_cut (ps_if (pt_cmpR op_eq (pe_op op_mod (pe_callTy call_int1 (by rfl) T.m_int (by decide +kernel) (pa_cons (pv 3) pa_nil)) pe_int) pe_int (by first | rfl | exact nomark _)) (pss_one (ps_set (i := 1) sc_law.nd rfl (by first | exact Or.inl rfl | exact Or.inr rfl) (pe_op op_add_str (pe_op op_add_str (pe_slice sl_str (pv 1) po_none (po_some (pv 5))) (pe_c c__law_char hr (by decide) (by rfl) (pa_cons (pe_op op_fdiv (pv 3) pe_int) pa_nil))) (pe_slice sl_str (pv 1) (po_some (pe_op op_add (pv 5) (pe_op op_mod (pe_op op_fdiv (pe_callTy call_int1 (by rfl) T.m_int (by decide +kernel) (pa_cons (pv 3) pa_nil)) pe_int) pe_int))) po_none)))) pss_nil)
      (pss_one (ps_if (pt_not (pt_val (pe_c c__law_right hr (by decide) (by rfl) (pa_cons (pv 1) pa_nil)))) (pss_one (ps_ret pe_bl)) pss_nil)))))))))
      (pss_one (ps_ret pe_bl)))), ?_⟩
    walk_at "go"
    intro e1 h1
    generalize x1 : upd H e1 _ = H1
    obtain ⟨s1, k1⟩ : Same H H1 ∧ H1 e1 = some (.lst (words22.map V.str)) := by subst x1; exact ⟨Same.new h1, upd_same⟩
    refine ⟨e1, rfl, ⟨_, SqL.of k1⟩, for_listD (xs := words22.map V.str) (fun i σ H2 => H1 = H2 ∧ ∃ o1 : Option V, σ = [some (.ref a), o1, none, none, none, none]) ⟨rfl, _, rfl⟩ (fun i σ H2 _ h => by rw [← h.1]; exact SqL.of k1) ?_ ?_⟩
    · rintro i x _ _ hx ⟨rfl, o1, rfl⟩
      obtain ⟨z, hz, rfl⟩ := List.mem_map.mp (List.mem_of_getElem? hx)
      have hz2 := words_ok z hz
      walk_at "go"
      refine ⟨hz2.1, hz2.2, ?_⟩
      walk_at "go"
      exact ⟨_, rfl⟩
    rintro _ _ ⟨rfl, o1, rfl⟩
    have hS1 := s1.seq hS
    walk_at "go"
    obtain ⟨n, en, hn⟩ : ∃ n : Nat, (if 63 < (((ns.map V.int).length : Nat) : Int) then 63 else (((ns.map V.int).length : Nat) : Int)).toNat = n ∧ n ≤ ns.length := ⟨_, rfl, by rw [List.length_map]; split <;> omega⟩
    rw [en]
    refine for_rangeD (lo := 0) (n := n) (fun i σ H2 => Same H1 H2 ∧ ∃ o1 o2 o3 o4 o5 : Option V, σ = [some (.ref a), o1, o2, o3, o4, o5]) ⟨Same.refl _, _, _, _, _, _, rfl⟩ ?_ ?_
    · rintro i _ H2 hi ⟨s2, o1, o2, o3, o4, o5, rfl⟩
      rw [Int.zero_add]
      have hS2 := s2.seq hS1
      have hin : i < ns.length := by omega
      walk_at "go"
      generalize (if ns.getD i 0 < 0 then -ns.getD i 0 else ns.getD i 0) = cell
      have hb : 10 + 6 * (cell % 2) = 10 ∨ 10 + 6 * (cell % 2) = 16 := by omega
      have hw0 : ("0000" : Str).length ≤ 4 ∧ Asc "0000" := ⟨by decide +kernel, asc_dec (by decide +kernel)⟩
      walk_at "go"
      refine ⟨by show (0 : Int) < 10 ^ 60; decide, ?_⟩
      walk_at "go"
      refine ⟨_, _, _, rfl, hb, fun y H3 hy hyA s3 => ?_⟩
      have c0 : (cutS "0000" none (some (cell / 4 % 5))).length ≤ 4 := Nat.le_trans (cutS_length _ _ _) hw0.1
      have a0 : Asc (cutS "0000" none (some (cell / 4 % 5))) := hw0.2.cut _ _
      generalize cutS "0000" none (some (cell / 4 % 5)) = w0 at c0 a0 ⊢
      refine ⟨w0, y, rfl, rfl, small64 (by omega), ?_⟩
      have lw : (w0 ++ y).length ≤ 64 := by rw [PySem.Str.length_append]; omega
      have aw := a0.add hyA
      generalize w0 ++ y = w1 at lw aw ⊢
      walk_at "go"
      refine ⟨fun σ H4 => H3 = H4 ∧ ∃ w2 : Str, w2.length ≤ 70 ∧ Asc w2 ∧ σ = [some (.ref a), some (.str w2), some (.int i), some (.int cell), some (.int (10 + 6 * (cell % 2))), o5], ?_, ?_⟩
      · walk_at "go"
        refine ite2 (fun c => ?_) (fun c => ?_)
        · have hx : ("0x" : Str).length ≤ 2 ∧ Asc "0x" := ⟨by decide +kernel, asc_dec (by decide +kernel)⟩
          walk_at "go"
          refine ⟨small64 (by omega), ?_⟩
          exact ⟨rfl, _, by rw [PySem.Str.length_append]; omega, hx.2.add aw, rfl⟩
        · exact ⟨rfl, _, by omega, aw, rfl⟩
      rintro _ _ ⟨rfl, w2, lw2, aw2, rfl⟩
      have hwS : w2.length ≤ sizeLine := small64 (by omega)
      walk_at "go"
      refine ⟨fun σ H4 => H3 = H4 ∧ ∃ (w3 : Str) (o : Option V), w3.length ≤ 200 ∧ Asc w3 ∧ σ = [some (.ref a), some (.str w3), some (.int i), some (.int cell), some (.int (10 + 6 * (cell % 2))), o], ?_, ?_⟩
      · walk_at "go"
        refine ite2 (fun c => ?_) (fun c => ?_)
        · walk_at "go"
          intro ch hch hcA
          have l1 := cutS_length w2 none (some (cell / 20 % (w2.length + 1)))
          have l2 := cutS_length w2 (some (cell / 20 % (w2.length + 1) + cell / 9 % 2)) none
          refine ⟨_, _, rfl, rfl, small64 (by omega), ?_⟩
          walk_at "go"
          refine ⟨small64 (by rw [PySem.Str.length_append]; omega), ?_⟩
          refine ⟨rfl, _, _, ?_, ((aw2.cut _ _).add hcA).add (aw2.cut _ _), rfl⟩
          rw [PySem.Str.length_append, PySem.Str.length_append]; omega
        · exact ⟨rfl, _, _, by omega, aw2, rfl⟩
      rintro _ _ ⟨rfl, w3, o, lw3, aw3, rfl⟩
      have s23 := s2.trans s3
      walk_at "go"
      exact ⟨_, _, _, _, _, rfl⟩
    · rintro _ H2 ⟨s2, o1, o2, o3, o4, o5, rfl⟩
      walk_at "go"
      exact q _
end
theorem all_mk {l : PySem.W.OpenLaw} {w : World} {K : PySem.W.Frag} {h : Heap} {mg : Str → Option Value} {fa f0 f1 f2 f3 f4 f5 f6 f7 f8 : Addr} (X : K.In h) (G : h.Ns mainGlobals mg) (hfa : mg "law" = some (.ref fa))
    {od0 an0 od1 an1 od2 an2 od3 an3 od4 an4 od5 an5 od6 an6 od7 an7 od8 an8 : Option Addr} {sl0 sl1 sl2 sl3 sl4 sl5 sl6 sl7 sl8 : Array (Option Value)} {oc0 kV0 dc0 pm0 cd0 ct0 oc1 kV1 dc1 pm1 cd1 ct1 oc2 kV2 dc2 pm2 cd2 ct2 oc3 kV3 dc3 pm3 cd3 ct3 oc4 kV4 dc4 pm4 cd4 ct4 oc5 kV5 dc5 pm5 cd5 ct5 oc6 kV6 dc6 pm6 cd6 ct6 oc7 kV7 dc7 pm7 cd7 ct7 oc8 kV8 dc8 pm8 cd8 ct8 : Value}
    (a0 : PySem.W.nsIn K mainGlobals "digit_of" = some (some (.ref f0))) (l0 : K.lookup f0 = some ⟨oc0, od0, .func (PySem.W.fnOf "digit_of" "digit_of" (defArgs s_digit_of) (defBody s_digit_of) (defScope s_digit_of) .none kV0 dc0 pm0 an0 cd0 ct0), sl0⟩) (c0 : PySem.W.codeIn K cd0 "digit_of" = true) (k0 : PySem.W.keepIn K (.ref f0) = true)
    (a1 : PySem.W.nsIn K mainGlobals "number_of" = some (some (.ref f1))) (l1 : K.lookup f1 = some ⟨oc1, od1, .func (PySem.W.fnOf "number_of" "number_of" (defArgs s_number_of) (defBody s_number_of) (defScope s_number_of) .none kV1 dc1 pm1 an1 cd1 ct1), sl1⟩) (c1 : PySem.W.codeIn K cd1 "number_of" = true) (k1 : PySem.W.keepIn K (.ref f1) = true)
    (a2 : PySem.W.nsIn K mainGlobals "_law_is_integer" = some (some (.ref f2))) (l2 : K.lookup f2 = some ⟨oc2, od2, .func (PySem.W.fnOf "_law_is_integer" "_law_is_integer" (defArgs s__law_is_integer) (defBody s__law_is_integer) (defScope s__law_is_integer) .none kV2 dc2 pm2 an2 cd2 ct2), sl2⟩) (c2 : PySem.W.codeIn K cd2 "_law_is_integer" = true) (k2 : PySem.W.keepIn K (.ref f2) = true)
    (a3 : PySem.W.nsIn K mainGlobals "_law_char" = some (some (.ref f3))) (l3 : K.lookup f3 = some ⟨oc3, od3, .func (PySem.W.fnOf "_law_char" "_law_char" (defArgs s__law_char) (defBody s__law_char) (defScope s__law_char) .none kV3 dc3 pm3 an3 cd3 ct3), sl3⟩) (c3 : PySem.W.codeIn K cd3 "_law_char" = true) (k3 : PySem.W.keepIn K (.ref f3) = true)
    (a4 : PySem.W.nsIn K mainGlobals "_law_digits" = some (some (.ref f4))) (l4 : K.lookup f4 = some ⟨oc4, od4, .func (PySem.W.fnOf "_law_digits" "_law_digits" (defArgs s__law_digits) (defBody s__law_digits) (defScope s__law_digits) .none kV4 dc4 pm4 an4 cd4 ct4), sl4⟩) (c4 : PySem.W.codeIn K cd4 "_law_digits" = true) (k4 : PySem.W.keepIn K (.ref f4) = true)
    (a5 : PySem.W.nsIn K mainGlobals "_law_value" = some (some (.ref f5))) (l5 : K.lookup f5 = some ⟨oc5, od5, .func (PySem.W.fnOf "_law_value" "_law_value" (defArgs s__law_value) (defBody s__law_value) (defScope s__law_value) .none kV5 dc5 pm5 an5 cd5 ct5), sl5⟩) (c5 : PySem.W.codeIn K cd5 "_law_value" = true) (k5 : PySem.W.keepIn K (.ref f5) = true)
    (a6 : PySem.W.nsIn K mainGlobals "_law_due" = some (some (.ref f6))) (l6 : K.lookup f6 = some ⟨oc6, od6, .func (PySem.W.fnOf "_law_due" "_law_due" (defArgs s__law_due) (defBody s__law_due) (defScope s__law_due) .none kV6 dc6 pm6 an6 cd6 ct6), sl6⟩) (c6 : PySem.W.codeIn K cd6 "_law_due" = true) (k6 : PySem.W.keepIn K (.ref f6) = true)
    (a7 : PySem.W.nsIn K mainGlobals "_law_right" = some (some (.ref f7))) (l7 : K.lookup f7 = some ⟨oc7, od7, .func (PySem.W.fnOf "_law_right" "_law_right" (defArgs s__law_right) (defBody s__law_right) (defScope s__law_right) .none kV7 dc7 pm7 an7 cd7 ct7), sl7⟩) (c7 : PySem.W.codeIn K cd7 "_law_right" = true) (k7 : PySem.W.keepIn K (.ref f7) = true)
    (a8 : PySem.W.nsIn K mainGlobals "law" = some (some (.ref f8))) (l8 : K.lookup f8 = some ⟨oc8, od8, .func (PySem.W.fnOf "law" "law" (defArgs s_law) (defBody s_law) (defScope s_law) .none kV8 dc8 pm8 an8 cd8 ct8), sl8⟩) (c8 : PySem.W.codeIn K cd8 "law" = true) (k8 : PySem.W.keepIn K (.ref f8) = true)
    (z_abs : PySem.W.nsIn K mainGlobals "abs" = some none)
    (z_bool : PySem.W.nsIn K mainGlobals "bool" = some none)
    (z_int : PySem.W.nsIn K mainGlobals "int" = some none)
    (z_isinstance : PySem.W.nsIn K mainGlobals "isinstance" = some none)
    (z_len : PySem.W.nsIn K mainGlobals "len" = some none)
    (z_min : PySem.W.nsIn K mainGlobals "min" = some none)
    (z_range : PySem.W.nsIn K mainGlobals "range" = some none)
    {kw_DIGITS : Tok} (aw_DIGITS : PySem.W.nsIn K mainGlobals "DIGITS" = some (some (.str ("0123456789abcdef" : Str) kw_DIGITS)))
    : ∃ fd : FuncData, (∀ (s : Shared) (v : Value), BindsTo s fd ⟨[v], []⟩ [("script", v)]) ∧ ∀ base : Heap, K.In base → base.Ns mainGlobals mg → FnOk l.prog w K mg base CX0 4 fa fd ["script"] (sp_lawK K) := by
  have e := hfa.symm.trans (PySem.W.mg_of X G a8)
  cases e
  have T : Tp w K mg (⟨()⟩ : Cs) := ⟨PySem.W.mg_none_of X G z_abs, PySem.W.mg_none_of X G z_bool, PySem.W.mg_none_of X G z_int, PySem.W.mg_none_of X G z_isinstance, PySem.W.mg_none_of X G z_len, PySem.W.mg_none_of X G z_min, PySem.W.mg_none_of X G z_range, ⟨_, PySem.W.mg_of X G aw_DIGITS⟩⟩
  have F0 := fun_mk (st := s_digit_of) l0 c0 k0
  have D_digit_of : Def K mg "digit_of" s_digit_of ["character"] := ⟨_, _, F0, PySem.W.mg_of X G a0, F0.binds (ps := ["character"]) fun _ _ _ _ _ _ us hl => match us, hl with | [_], _ => rfl⟩
  have F1 := fun_mk (st := s_number_of) l1 c1 k1
  have D_number_of : Def K mg "number_of" s_number_of ["word"] := ⟨_, _, F1, PySem.W.mg_of X G a1, F1.binds (ps := ["word"]) fun _ _ _ _ _ _ us hl => match us, hl with | [_], _ => rfl⟩
  have F2 := fun_mk (st := s__law_is_integer) l2 c2 k2
  have D__law_is_integer : Def K mg "_law_is_integer" s__law_is_integer ["actual"] := ⟨_, _, F2, PySem.W.mg_of X G a2, F2.binds (ps := ["actual"]) fun _ _ _ _ _ _ us hl => match us, hl with | [_], _ => rfl⟩
  have F3 := fun_mk (st := s__law_char) l3 c3 k3
  have D__law_char : Def K mg "_law_char" s__law_char ["number"] := ⟨_, _, F3, PySem.W.mg_of X G a3, F3.binds (ps := ["number"]) fun _ _ _ _ _ _ us hl => match us, hl with | [_], _ => rfl⟩
  have F4 := fun_mk (st := s__law_digits) l4 c4 k4
  have D__law_digits : Def K mg "_law_digits" s__law_digits ["number", "base", "cell"] := ⟨_, _, F4, PySem.W.mg_of X G a4, F4.binds (ps := ["number", "base", "cell"]) fun _ _ _ _ _ _ us hl => match us, hl with | [_, _, _], _ => rfl⟩
  have F5 := fun_mk (st := s__law_value) l5 c5 k5
  have D__law_value : Def K mg "_law_value" s__law_value ["text", "base"] := ⟨_, _, F5, PySem.W.mg_of X G a5, F5.binds (ps := ["text", "base"]) fun _ _ _ _ _ _ us hl => match us, hl with | [_, _], _ => rfl⟩
  have F6 := fun_mk (st := s__law_due) l6 c6 k6
  have D__law_due : Def K mg "_law_due" s__law_due ["word"] := ⟨_, _, F6, PySem.W.mg_of X G a6, F6.binds (ps := ["word"]) fun _ _ _ _ _ _ us hl => match us, hl with | [_], _ => rfl⟩
  have F7 := fun_mk (st := s__law_right) l7 c7 k7
  have D__law_right : Def K mg "_law_right" s__law_right ["word"] := ⟨_, _, F7, PySem.W.mg_of X G a7, F7.binds (ps := ["word"]) fun _ _ _ _ _ _ us hl => match us, hl with | [_], _ => rfl⟩
  have F8 := fun_mk (st := s_law) l8 c8 k8
  refine ⟨PySem.W.fnOf "law" "law" (defArgs s_law) (defBody s_law) (defScope s_law) .none kV8 dc8 pm8 an8 cd8 ct8, fun s v => .of_eq rfl, fun base _ _ => ?_⟩
  have C_digit_of : Cal l.prog w K mg base CX0 1 "digit_of" (sp_digit_of K (⟨()⟩ : Cs)) := c_digit_of D_digit_of T 
  have C_number_of : Cal l.prog w K mg base CX0 2 "number_of" (sp_number_of K (⟨()⟩ : Cs)) := c_number_of D_number_of T C_digit_of
  have C__law_value : Cal l.prog w K mg base CX0 1 "_law_value" (sp__law_value K (⟨()⟩ : Cs)) := c__law_value D__law_value T 
  have C__law_due : Cal l.prog w K mg base CX0 2 "_law_due" (sp__law_due K (⟨()⟩ : Cs)) := c__law_due D__law_due T C__law_value
  have C__law_is_integer : Cal l.prog w K mg base CX0 1 "_law_is_integer" (sp__law_is_integer K (⟨()⟩ : Cs)) := c__law_is_integer D__law_is_integer T 
  have C__law_right : Cal l.prog w K mg base CX0 3 "_law_right" (sp__law_right K (⟨()⟩ : Cs)) := c__law_right D__law_right T C_number_of C__law_due C__law_is_integer
  have C__law_digits : Cal l.prog w K mg base CX0 1 "_law_digits" (sp__law_digits K (⟨()⟩ : Cs)) := c__law_digits D__law_digits T 
  have C__law_char : Cal l.prog w K mg base CX0 1 "_law_char" (sp__law_char K (⟨()⟩ : Cs)) := c__law_char D__law_char T 
  exact c_law F8 T C__law_right C__law_digits C__law_char
theorem walk {l : PySem.W.OpenLaw} {q : Program} {loose : List Str} {XP : (Str → Option Value) → Heap → Prop} {YP : World → Heap → Prop} {d : DefRec} {K : Params → PySem.W.Frag} (hn : l.most = some 63) (hdf : d.params.defaults = [])
    (hY : ∀ (w : World) (h : Heap), YP w h → (K w.params).In h)
    (F : ∀ (w : World) (mg : Str → Option Value) (fa : Addr) (h : Heap), (K w.params).In h → h.Ns mainGlobals mg → mg d.name = some (.ref fa) →
      ∃ fd : FuncData, (∀ (s : Shared) (u : Value), BindsTo s fd ⟨[u], []⟩ [("script", u)]) ∧ ∀ base : Heap, (K w.params).In base → base.Ns mainGlobals mg → FnOk l.prog w (K w.params) mg base CX0 4 fa fd ["script"] (sp_lawK (K w.params))) :
    PySem.W.WalkO q loose XP YP l.row.toRowW d [] (fun f vs => PySem.call f vs) :=
  L2.walk_of (n := 63) (k := 4) (x := "script") (CX := fun _ => CX0) (sp := fun w => sp_lawK (K w.params)) hn (by decide) hdf ⟨rfl, by decide, by decide⟩ hY F (fun _ _ a ns hl _ hS => ⟨a, ns, rfl, hS, hl, fun _ => rfl⟩) fun _ _ _ _ _ z => z
end V
open PySem PySem.W PyProof.Rows
set_option maxRecDepth 100000 in
set_option maxHeartbeats 0 in
theorem PySem.Challenge.cw_wasmhost_k22_numbers_in_words_holds : PySem.Challenge.rw_wasmhost_k22_numbers_in_words.Holds := by
  w_on; o_law; k_head; (case hw => w_witness2)
  k_fill
  refine V.walk (l := PySem.Challenge.rw_wasmhost_k22_numbers_in_words) rfl rfl (fun w h Y => PySem.W.kIn_of Y) ?F
  case F =>
    intro w mg fa h KX G hmg
    refine' V.all_mk KX G hmg ?a0 ?l0 ?c0 ?k0 ?a1 ?l1 ?c1 ?k1 ?a2 ?l2 ?c2 ?k2 ?a3 ?l3 ?c3 ?k3 ?a4 ?l4 ?c4 ?k4 ?a5 ?l5 ?c5 ?k5 ?a6 ?l6 ?c6 ?k6 ?a7 ?l7 ?c7 ?k7 ?a8 ?l8 ?c8 ?k8 ?z_abs ?z_bool ?z_int ?z_isinstance ?z_len ?z_min ?z_range ?aw_DIGITS
    (case a0 => k_is)
    (case l0 => k_is)
    (case c0 => k_is)
    (case k0 => k_is)
    (case a1 => k_is)
    (case l1 => k_is)
    (case c1 => k_is)
    (case k1 => k_is)
    (case a2 => k_is)
    (case l2 => k_is)
    (case c2 => k_is)
    (case k2 => k_is)
    (case a3 => k_is)
    (case l3 => k_is)
    (case c3 => k_is)
    (case k3 => k_is)
    (case a4 => k_is)
    (case l4 => k_is)
    (case c4 => k_is)
    (case k4 => k_is)
    (case a5 => k_is)
    (case l5 => k_is)
    (case c5 => k_is)
    (case k5 => k_is)
    (case a6 => k_is)
    (case l6 => k_is)
    (case c6 => k_is)
    (case k6 => k_is)
    (case a7 => k_is)
    (case l7 => k_is)
    (case c7 => k_is)
    (case k7 => k_is)
    (case a8 => k_is)
    (case l8 => k_is)
    (case c8 => k_is)
    (case k8 => k_is)
    (case z_abs => k_is)
    (case z_bool => k_is)
    (case z_int => k_is)
    (case z_isinstance => k_is)
    (case z_len => k_is)
    (case z_min => k_is)
    (case z_range => k_is)
    (case aw_DIGITS => k_is)
#print axioms PySem.Challenge.cw_wasmhost_k22_numbers_in_words_holds


