import PyProof.Rows.All
import Wide.All
import OpenK.AllK
import Wide.FinOn
import KE.KBits
import KE.BitLaws
import HandS.ForMost
import HandS.ForExc
import HandS.IsInst
import HandS.Wide
import HandS.WideBits
import HandS.WideMore
import HandS.Flow
import HandS.ExcInit
import HandS.Codes
import HandS.ExcField
import HandS.ExcIs
import KE.KExcIs
import KE.KIsAll
import HandS.More
import HandS.Dict
import HandS.CallLocal
import HandS.Zip
import HandS.Text
import HandS.Conv
import HandS.Iter
import HandS.Style
import PySem.Challenge.RW_wasmhost_k74_packed_numbers_come_back
set_option Elab.async false
set_option linter.all false
set_option maxRecDepth 100000
set_option maxHeartbeats 4000000
namespace V
open PySem PySem.Spec PyProof.Rows L2
/-! ### a def that may be called by its name -/
structure Cal (P : Program) (w : World) (K : PySem.W.Frag) (mg : Str → Option Value) (base : Heap) (C : CXT) (k : Nat) (x : Str) (sp : Sp) : Prop where
  ex : ∃ (f : Addr) (fd : FuncData) (ps : List Str), FnOk P w K mg base C k f fd ps sp ∧ mg x = some (.ref f) ∧ PySem.W.keepIn K (.ref f) = true ∧ Binds K fd ps []
section
variable {P : Program} {w : World} {K : PySem.W.Frag} {mg : Str → Option Value} {base : Heap} {k : Nat} {x : Str} {sp sp' : Sp} {C : CXT}
theorem Cal.mono (c : Cal P w K mg base C k x sp) {j : Nat} (h : k ≤ j) : Cal P w K mg base C j x sp := by
  obtain ⟨f, fd, ps, F, m, kp, b⟩ := c.ex
  exact ⟨f, fd, ps, F.mono h, m, kp, b⟩
theorem Cal.imp (c : Cal P w K mg base C k x sp) (h : ∀ vs H Q E, sp' vs H Q E → sp vs H Q E) : Cal P w K mg base C k x sp' := by
  obtain ⟨f, fd, ps, F, m, kp, b⟩ := c.ex
  exact ⟨f, fd, ps, F.imp h, m, kp, b⟩
/-- a def as the top leaves it -/
structure Def (K : PySem.W.Frag) (mg : Str → Option Value) (x : Str) (st : Stmt) (ps : List Str) : Prop where
  ex : ∃ (f : Addr) (fd : FuncData), L2.Fun K x x st f fd ∧ mg x = some (.ref f) ∧ Binds K fd ps []
theorem Def.ok {st : Stmt} {N ps : List Str} (D : Def K mg x st ps) (S : FnScope N ps (defScope st)) (len : ∀ vs H Q E, sp vs H Q E → vs.length = ps.length)
    (hbody : ∀ (f : Addr) (cdv : Value) (A : Around) (outer : List Env) (s : Shared) (H : Hp) (vs : List V) (Q : VK) (E : XK), Room k (A.deeper (envOfC x (defScope st) s.heap.objs.size f cdv)) → sp vs H Q E →
      ∃ t, PSs (cxOf CX0 P w K mg base N x (defScope st) f cdv A outer s H E).nox (defBody st) t ∧ t { nx := fun _ H' => Q .non H', rt := Q } (start N vs) H) : Cal P w K mg base CX0 (k + 1) x sp := by
  obtain ⟨f, fd, F, m, b⟩ := D.ex
  exact ⟨f, fd, ps, F.ok S len (hbody f), m, F.kp, b⟩
theorem Def.okX {st : Stmt} {N ps : List Str} (D : Def K mg x st ps) (S : FnScope N ps (defScope st)) (len : ∀ vs H Q E, sp vs H Q E → vs.length = ps.length)
    (hbody : ∀ (f : Addr) (cdv : Value) (A : Around) (outer : List Env) (s : Shared) (H : Hp) (vs : List V) (Q : VK) (E : XK), Room k (A.deeper (envOfC x (defScope st) s.heap.objs.size f cdv)) → sp vs H Q E →
      ∃ t, PSs (cxOf (L2.CX P w) P w K mg base N x (defScope st) f cdv A outer s H E) (defBody st) t ∧ t { nx := fun _ H' => Q .non H', rt := Q } (start N vs) H) : Cal P w K mg base (L2.CX P w) (k + 1) x sp := by
  obtain ⟨f, fd, F, m, b⟩ := D.ex
  exact ⟨f, fd, ps, F.okX S len (hbody f), m, F.kp, b⟩
end
section
variable {X : Cx} {k j : Nat} {x : Str} {sp : Sp} {p pos : Pos} {e : Expr} {es : List Expr} {t : TA} {C : CXT} {E : XK}
theorem pe_cE (c : Cal X.prog X.w X.K X.mg X.base C k x sp) (hr : Room j X.A) (hk : k ≤ j) (hx : Passes C X E) (hg : Gl X x) (ha : PA X (e :: es) t)
    (hdb : (x == ("__debug__" : Str)) = false := by decide) (he : starEach (e :: es) X.env = (false, eval e X.env) :: starEach es X.env := by rfl) (hpl : (backTo pos (starEach es X.env)).any (·.1) = false := by rfl) :
    PE X (.Call (.Name x p) (e :: es) [] pos) (tCall sp [] E t) := by
  obtain ⟨f, fd, ps, F, hm, kp, b⟩ := c.ex
  exact pe_call F (hr.mono hk) hg hm kp b .nil hx ha hdb he hpl
theorem pe_cE0 (c : Cal X.prog X.w X.K X.mg X.base C k x sp) (hr : Room j X.A) (hk : k ≤ j) (hx : Passes C X E) (hg : Gl X x)
    (hdb : (x == ("__debug__" : Str)) = false := by decide) : PE X (.Call (.Name x p) [] [] pos) (tCall sp [] E tNil) := by
  obtain ⟨f, fd, ps, F, hm, kp, b⟩ := c.ex
  exact pe_call0 F (hr.mono hk) hg hm kp b .nil hx hdb
/-- a def that lets nothing out -/
theorem pe_c (c : Cal X.prog X.w X.K X.mg X.base CX0 k x sp) (hr : Room j X.A) (hk : k ≤ j) (hg : Gl X x) (ha : PA X (e :: es) t)
    (hdb : (x == ("__debug__" : Str)) = false := by decide) (he : starEach (e :: es) X.env = (false, eval e X.env) :: starEach es X.env := by rfl) (hpl : (backTo pos (starEach es X.env)).any (·.1) = false := by rfl) :
    PE X (.Call (.Name x p) (e :: es) [] pos) (tCall sp [] E0 t) := pe_cE c hr hk pass0 hg ha hdb he hpl
theorem pe_c0 (c : Cal X.prog X.w X.K X.mg X.base CX0 k x sp) (hr : Room j X.A) (hk : k ≤ j) (hg : Gl X x)
    (hdb : (x == ("__debug__" : Str)) = false := by decide) : PE X (.Call (.Name x p) [] [] pos) (tCall sp [] E0 tNil) := pe_cE0 c hr hk pass0 hg hdb
end
section
variable {X : Cx} {k j : Nat} {x : Str} {sp : Sp} {p pos : Pos} {e : Expr} {es : List Expr} {t : TA} {C : CXT} {E : L2.St → XK}
/-- a call within a try -/
theorem pe_cS (c : Cal X.prog X.w X.K X.mg X.base C k x sp) (hr : Room j X.A) (hk : k ≤ j) (hg : Gl X x) (hx : ∀ σ, PassesAt C X σ (E σ)) (ha : PA X (e :: es) t)
    (hdb : (x == ("__debug__" : Str)) = false := by decide) (he : starEach (e :: es) X.env = (false, eval e X.env) :: starEach es X.env := by rfl) (hpl : (backTo pos (starEach es X.env)).any (·.1) = false := by rfl) : PE X (.Call (.Name x p) (e :: es) [] pos) (tCallS sp E t) := by
  obtain ⟨f, fd, ps, F, hm, kp, b⟩ := c.ex
  exact pe_callS F (hr.mono hk) hg hm kp b hx ha hdb he hpl
end
theorem hu64 {A : Around} {k : Nat} (hr : Room k A) : A.units + 64 < cLine := by have := hr.un; omega
/-! ### numbers -/
theorem small64 {n : Nat} (h : n ≤ 1000000) : n ≤ sizeLine := Nat.le_trans h (by decide)
theorem small64' {n : Nat} (h : n ≤ 1000000) : n < sizeLine := Nat.lt_of_le_of_lt h (by decide)
theorem shl1 {j : Int} (h : 0 ≤ j) (h2 : j ≤ 100000) : CShl 1 j := by
  obtain ⟨n, rfl⟩ := Int.eq_ofNat_of_zero_le h
  exact shl_ok (n := 1) (by decide) (by omega)
theorem shlN {i j : Int} (hi : i.natAbs < 2 ^ 1000) (h : 0 ≤ j) (h2 : j ≤ 100000) : CShl i j := by
  obtain ⟨n, rfl⟩ := Int.eq_ofNat_of_zero_le h
  exact shl_ok (n := 1000) hi (by omega)
theorem pow_pos2 (k : Nat) : (0 : Int) < 2 ^ k := PySem.W.kbt_pos k
/-! ### heaps -/
theorem Same.new {H : Hp} {p : Addr} {o : HO} (h : H p = none) : Same H (upd H p o) := fun b x e => by
  rw [upd_ne (ne_of_none e h)]; exact e
theorem SqL.new {K : PySem.W.Frag} {H : Hp} {p : Addr} {xs : List V} : SqL K (upd H p (.lst xs)) p xs := .inl (.inl upd_same)
theorem SqT.new {K : PySem.W.Frag} {H : Hp} {p : Addr} {xs : List V} : SqT K (upd H p (.tup xs)) p xs := .inl (.inl upd_same)

/-! ### operators in the words that the readings like -/
section
variable {X : Cx}
/-- i << j, i of a usual size -/
theorem op_shlS : OpR X (binaryOp .LShift) (fun x y H Q => ∃ i j : Int, x = .int i ∧ y = .int j ∧ (i.natAbs < 2 ^ 1000 ∧ 0 ≤ j ∧ j ≤ 100000) ∧ Q (.int (i * 2 ^ j.toNat)) H) := by
  intro pins s σ H x y v u Q I rx ry h
  obtain ⟨i, j, rfl, rfl, ⟨c0, c1, c2⟩, q⟩ := h
  exact op_shlW pins s σ H _ _ v u Q I rx ry ⟨i, j, rfl, rfl, shlN c0 c1 c2, q⟩
theorem nat_small {i : Int} (h : i.natAbs ≤ 18446744073709551616) : i.natAbs < 2 ^ 1000 := Nat.lt_of_le_of_lt h (by decide +kernel)
/-- 1 << j -/
theorem op_shl1 : OpR X (binaryOp .LShift) (fun x y H Q => ∃ j : Int, x = .int 1 ∧ y = .int j ∧ (0 ≤ j ∧ j ≤ 100000) ∧ Q (.int (2 ^ j.toNat)) H) := by
  intro pins s σ H x y v u Q I rx ry h
  obtain ⟨j, rfl, rfl, ⟨c1, c2⟩, q⟩ := h
  refine op_shlW pins s σ H _ _ v u Q I rx ry ⟨1, j, rfl, rfl, shl1 c1 c2, ?_⟩
  show Q (.int (1 * 2 ^ j.toNat)) H
  rw [Int.one_mul]; exact q
end
/-- isinstance(x, T) of a value of a type of its own -/
theorem isi_int {K : PySem.W.Frag} {H : Hp} {i : Int} {Q : VK} (q : Q (.bl true) H) : rIsi K [.int i, .ty "int"] H Q := ⟨.int i, .ty "int", _, _, true, rfl, .ty _, .base (.int _), kit_ty (by decide +kernel), q⟩
theorem isi_int_bool {K : PySem.W.Frag} {H : Hp} {i : Int} {Q : VK} (q : Q (.bl false) H) : rIsi K [.int i, .ty "bool"] H Q := ⟨.int i, .ty "bool", _, _, false, rfl, .ty _, .base (.int _), kit_ty (by decide +kernel), q⟩
theorem isi_list {K : PySem.W.Frag} {H : Hp} {a : Addr} {xs : List V} {Q : VK} (h : H a = some (.lst xs)) (q : Q (.bl true) H) : rIsi K [.ref a, .ty "list"] H Q := ⟨.ref a, .ty "list", _, _, true, rfl, .ty _, .base (.lst h), kit_ty (by decide +kernel), q⟩
theorem isi_tup {K : PySem.W.Frag} {H : Hp} {a : Addr} {xs : List V} {Q : VK} (h : H a = some (.tup xs)) (q : Q (.bl true) H) : rIsi K [.ref a, .ty "tuple"] H Q := ⟨.ref a, .ty "tuple", _, _, true, rfl, .ty _, .base (.tup h), kit_ty (by decide +kernel), q⟩
theorem isi_str {K : PySem.W.Frag} {H : Hp} {z : Str} {Q : VK} (q : Q (.bl true) H) : rIsi K [.str z, .ty "str"] H Q := ⟨.str z, .ty "str", _, _, true, rfl, .ty _, .base (.str _), kit_ty (by decide +kernel), q⟩
/-! ### lists of ints -/
theorem at_ints {ns : List Int} {k : Nat} (h : k < ns.length) : atI (ns.map V.int) (k : Int) = some (.int (ns.getD k 0)) := atI_nat (by
  rw [List.getElem?_map, List.getElem?_eq_getElem h, List.getD_eq_getElem?_getD, List.getElem?_eq_getElem h]; rfl)
theorem cut_to (xs : List V) (k : Nat) : cutV xs none (some (k : Int)) = xs.take k := by
  unfold cutV
  rw [HT.sIx_nat, HT.sIx_none, List.drop_zero, Nat.sub_zero]
  rcases Nat.le_total k xs.length with h | h
  · rw [Nat.min_eq_left h]
  · rw [Nat.min_eq_right h, List.take_length, List.take_of_length_le h]
theorem cut_from (xs : List V) (k : Nat) : cutV xs (some (k : Int)) none = xs.drop k := by
  unfold cutV
  rw [HT.sIx_nat, HT.sIx_none]
  rcases Nat.le_total k xs.length with h | h
  · rw [Nat.min_eq_left h]; exact List.take_of_length_le (by rw [List.length_drop]; exact Nat.le_refl _)
  · rw [Nat.min_eq_right h, Nat.sub_self, List.take_zero, List.drop_eq_nil_of_le h]
/-! ### a reading, gone through as far as it goes by sight -/
local macro_rules | `(tactic| walk_at "side") => `(tactic| first
  | (show _ = _; rfl)
  | (show (0 : Int) < _; first | omega | exact pow_pos2 _)
  | (show (0 : Int) ≤ _; omega)
  | (show (0 : Int) ≤ _ ∧ _; constructor <;> omega)
  | (show (0 : Int) < _ ∧ _; constructor <;> omega)
  | (show (_ < _ ∧ _ < _) ∨ (_ < _ ∧ _ < _); first | exact .inl ⟨by omega, by omega⟩ | exact .inr ⟨by omega, by omega⟩))
local macro_rules | `(tactic| walk_at "loop") => `(tactic| (show ∃ W : (Nat → Nat → L2.St → Hp → Prop), _))
local macro_rules | `(tactic| walk_at "go1") => `(tactic| (fail_if_success walk_at "loop"); first
  | refine And.intro (show (_ : Int) ≤ _ by omega) ?_
  | refine ⟨_, rfl, ?_⟩
  | refine ⟨_, _, rfl, rfl, ?_⟩
  | refine ⟨_, rfl, rfl, ?_⟩
  | refine .inl ⟨_, rfl, ?_⟩
  | refine ⟨_, .ty "int", _, _, true, rfl, .ty _, .base (.int _), kit_ty (by decide +kernel), ?_⟩
  | refine ⟨_, .ty "bool", _, _, false, rfl, .ty _, .base (.int _), kit_ty (by decide +kernel), ?_⟩
  | refine ⟨_, .ty "bool", _, _, false, rfl, .ty _, .base (.str _), kit_ty (by decide +kernel), ?_⟩
  | refine ⟨_, .ty "str", _, _, true, rfl, .ty _, .base (.str _), kit_ty (by decide +kernel), ?_⟩
  | refine ⟨_, .ty "list", _, _, true, rfl, .ty _, .base (.lst (by assumption)), kit_ty (by decide +kernel), ?_⟩
  | refine ⟨_, .ty "tuple", _, _, true, rfl, .ty _, .base (.tup (by assumption)), kit_ty (by decide +kernel), ?_⟩
  | refine ⟨_, _, rfl, .inl (by assumption), ?_⟩
  | refine ⟨_, _, rfl, .inr (by assumption), ?_⟩
  | refine ⟨_, _, rfl, ?_⟩
  | refine ⟨_, _, _, _, rfl, rfl, by assumption, at_ints (by omega), ?_⟩
  | refine ⟨_, _, _, _, rfl, rfl, by assumption, rfl, ?_⟩
  | refine iteF ?_
  | refine iteT ?_
  | refine iteNS rfl ?_
  | (refine And.intro ?h1 ?h2; case h1 => first
    | walk_at "side"
    | assumption
    | (show (_ : Nat) ≤ _; omega)
    | (show (_ : Int) ≤ _; omega)
    | (show (_ : Int) < _; omega)
    | (show 0 ≤ sizeLine; decide)
    | (show 1 ≤ sizeLine; decide)
    | (show 2 ≤ sizeLine; decide)
    | (show 3 ≤ sizeLine; decide)
    | (show 4 ≤ sizeLine; decide)
    | (show (_ : Nat) ≤ _; decide)))
local macro_rules | `(tactic| walk_at "go") => `(tactic| repeat walk_at "go1")
/-! ### tests that read alone, loops -/
theorem tor_b {t u : TT} {σ : L2.St} {H : Hp} {Q : Bool → Hp → Prop} (b1 b2 : Bool) (h1 : ∀ Q, Q b1 H → t σ H Q) (h2 : ∀ Q, Q b2 H → u σ H Q) (q : Q (b1 || b2) H) : tOr t u σ H Q := by
  refine h1 _ ?_
  cases b1 with
  | true => rw [if_pos rfl]; exact q
  | false => rw [if_neg (by decide)]; exact h2 _ q
theorem tand_b {t u : TT} {σ : L2.St} {H : Hp} {Q : Bool → Hp → Prop} (b1 b2 : Bool) (h1 : ∀ Q, Q b1 H → t σ H Q) (h2 : ∀ Q, Q b2 H → u σ H Q) (q : Q (b1 && b2) H) : tAnd t u σ H Q := by
  refine h1 _ ?_
  cases b1 with
  | true => rw [if_pos rfl]; exact h2 _ q
  | false => rw [if_neg (by decide)]; exact q
theorem while_ev {c : TT} {tb : TS} {D : Ends} {σ : L2.St} {H : Hp} (Pv : L2.St → Hp → Prop) (μ : L2.St → Hp → Nat) (h0 : Pv σ H)
    (hs : ∀ σ H, Pv σ H → ∃ b : Bool, (∀ Q, Q b H → c σ H Q) ∧ (b = true → tb { D with nx := fun σ' H' => Pv σ' H' ∧ μ σ' H' < μ σ H, ct := fun σ' H' => Pv σ' H' ∧ μ σ' H' < μ σ H, bk := D.nx } σ H) ∧ (b = false → D.nx σ H)) : tWhile c tb D σ H := by
  refine ⟨fun m σ H => m = μ σ H ∧ Pv σ H, ⟨_, rfl, h0⟩, ?_⟩
  rintro m σ H ⟨rfl, p⟩
  obtain ⟨b, h1, h2, h3⟩ := hs σ H p
  refine h1 _ ?_
  cases b with
  | true => exact ⟨_, fun σ' H' ⟨p', l⟩ => ⟨_, l, rfl, p'⟩, h2 rfl⟩
  | false => exact h3 rfl
/-- the loops' bookkeeping, with what follows and what returns told apart -/
theorem for_listD {K : PySem.W.Frag} {a : Addr} {xs : List V} {g : TG} {tb : TS} {nx : L2.St → Hp → Prop} {rt : VK} {σ : L2.St} {H : Hp} (Pv : Nat → L2.St → Hp → Prop) (h0 : Pv 0 σ H) (hl : ∀ i σ H, i ≤ xs.length → Pv i σ H → SqL K H a xs)
    (hs : ∀ i x σ H, xs[i]? = some x → Pv i σ H → g x σ H fun σ2 H2 => tb { nx := Pv (i + 1), rt := rt, bk := nx, ct := Pv (i + 1) } σ2 H2) (hd : ∀ σ H, Pv xs.length σ H → nx σ H) :
    ∃ W : Nat → Nat → L2.St → Hp → Prop, (∃ m, W 0 m σ H) ∧ ∀ i m σ H, W i m σ H → ((Itl K a).stop i H ∧ nx σ H) ∨ ((Itl K a).go i H ∧ ∃ N : L2.St → Hp → Prop, (∀ σ' H', N σ' H' → ∃ m', m' < m ∧ W (i + 1) m' σ' H') ∧
      ∀ x H', (Itl K a).yld i H x H' → g x σ H' fun σ2 H2 => tb { nx := N, rt := rt, bk := nx, ct := N } σ2 H2) := for_list (D := { nx := nx, rt := rt }) Pv h0 hl hs hd
theorem for_rangeD {lo : Int} {n : Nat} {g : TG} {tb : TS} {nx : L2.St → Hp → Prop} {rt : VK} {σ : L2.St} {H : Hp} (Pv : Nat → L2.St → Hp → Prop) (h0 : Pv 0 σ H)
    (hs : ∀ i σ H, i < n → Pv i σ H → g (.int (lo + i)) σ H fun σ2 H2 => tb { nx := Pv (i + 1), rt := rt, bk := nx, ct := Pv (i + 1) } σ2 H2) (hd : ∀ σ H, Pv n σ H → nx σ H) :
    ∃ W : Nat → Nat → L2.St → Hp → Prop, (∃ m, W 0 m σ H) ∧ ∀ i m σ H, W i m σ H → ((Itr lo n).stop i H ∧ nx σ H) ∨ ((Itr lo n).go i H ∧ ∃ N : L2.St → Hp → Prop, (∀ σ' H', N σ' H' → ∃ m', m' < m ∧ W (i + 1) m' σ' H') ∧
      ∀ x H', (Itr lo n).yld i H x H' → g x σ H' fun σ2 H2 => tb { nx := N, rt := rt, bk := nx, ct := N } σ2 H2) := for_range (D := { nx := nx, rt := rt }) Pv h0 hs hd
/-! ### a comprehension that makes f of each item -/
theorem lc_map {K : PySem.W.Frag} {a : Addr} {xs : List V} {j : Nat} {te : TE} {σ : L2.St} {H1 : Hp} {D : Addr} {Qd : Hp → Prop} (f : V → V) (hD : H1 D = none) (hS : SqL K H1 a xs) (hn : xs.length ≤ 100000)
    (hs : ∀ x H Q, x ∈ xs → Same H1 H → (∀ H', Same H H' → Q (f x) H') → te ((σ.set j none).set j (some x)) H Q) (hd : ∀ H, Same H1 H → H D = some (.lst (xs.map f)) → Qd H) :
    ∃ W : Nat → Nat → Hp → Prop, (∃ m, W 0 m (upd H1 D (.lst []))) ∧ ∀ i m H, W i m H →
      ((Itl K a).stop i H ∧ Qd H) ∨ ((Itl K a).go i H ∧ ∃ Nx : Hp → Prop, (∀ H', Nx H' → ∃ m', m' < m ∧ W (i + 1) m' H') ∧ ∀ x H', (Itl K a).yld i H x H' → gName j x (wipe σ [j]) H' fun σ2 H2 => wipe σ2 [j] = wipe σ [j] ∧ tYes σ2 H2 fun b H3 =>
        if b = true then te σ2 H3 fun y H4 => ∃ acc, H4 D = some (.lst acc) ∧ acc.length < sizeLine ∧ Nx (upd H4 D (.lst (acc ++ [y]))) else Nx H3) := by
  refine lc_list (xs := xs) (fun i H => Same H1 H ∧ H D = some (.lst ((xs.take i).map f))) ⟨Same.new hD, by rw [upd_same]; rfl⟩ (fun i H _ h => h.1.seq hS) (fun i x H hx h => ?_) (fun H h => hd H h.1 (by rw [List.take_length] at h; exact h.2))
  have hi : i < xs.length := (List.getElem?_eq_some_iff.mp hx).1
  refine ⟨?_, ?_⟩
  · show (((σ.set j none).set j (some x)).set j none) = σ.set j none
    rw [List.set_set, List.set_set]
  · simp only [tYes, if_true]
    refine hs x H _ (List.mem_of_getElem? hx) h.1 fun H' s' => ?_
    refine ⟨_, s' _ _ h.2, ?_, fun b o e => ?_, ?_⟩
    · rw [List.length_map, List.length_take]; exact small64' (by omega)
    · have nb : b ≠ D := fun z => by rw [z, hD] at e; cases e
      rw [upd_ne nb]; exact s' _ _ (h.1 _ _ e)
    · rw [upd_same, List.take_add_one, hx, List.map_append]; rfl

/-! ### own errors with fields -/
/-- what the top has written of an own error's class, whose base is ValueError by some way -/
structure ExK (K : PySem.W.Frag) (mg : Str → Option Value) (x : Str) (C : Addr) : Prop where
  g : mg x = some (.ref C)
  T : OexC K C
  ga : PySem.W.findIn K (.ref C) "__getattribute__" = some (some (.builtin "BaseException.__getattribute__"))
  gg : PySem.W.findIn K (.ref C) "__getattr__" = some none
  hd : PySem.W.hasDictIn K C = true
  ca : PySem.W.findIn K (.ref C) "__class__" = some (some (.builtin "object.__class__"))
  sp : PySem.W.specialIn K (.builtin "object.__class__") "__get__" = some (some (.builtin "getset_descriptor.__get__"))
  tk : PySem.W.takesIn K (.builtin "object.__class__") = some true
  mr : PySem.W.mroIn K C (.type "object") = some true
theorem ExK.xf {K : PySem.W.Frag} {mg : Str → Option Value} {x : Str} {C : Addr} (k : ExK K mg x C) : XfC K C := ⟨k.ga, k.gg, k.T.exC, k.hd⟩
def spI1 (K : PySem.W.Frag) (C : Addr) (a : Str) : Sp := fun vs H Q _ => ∃ (s : Addr) (v : V), vs = [.ref s, v] ∧ H s = some (exo s C none) ∧
  ∀ d, H d = none → d ≠ s → Q .non (upd (upd H d (exd d [(a, v)])) s (exo s C (some d)))
def spI2 (K : PySem.W.Frag) (C : Addr) (a b : Str) : Sp := fun vs H Q _ => ∃ (s : Addr) (v u : V), vs = [.ref s, v, u] ∧ H s = some (exo s C none) ∧
  ∀ d, H d = none → d ≠ s → Q .non (upd (upd (upd H d (exd d [(a, v)])) s (exo s C (some d))) d (exd d [(b, u), (a, v)]))
theorem del_upd {H : Hp} {s d : Addr} {o o' : HO} (hs : H s = none) (hd : H d = none) (ne : d ≠ s) {K : Hp} (hK : ∀ b, b ≠ s → b ≠ d → K b = H b) : Same H (upd (del K s) d o) := fun b x e => by
  have nd : b ≠ d := ne_of_none e hd
  have ns : b ≠ s := ne_of_none e hs
  rw [upd_ne nd, del_ne ns, hK b ns nd]; exact e
/-- X(v): an error flies whose dict, new at d, holds the field; all else stands -/
theorem fly1 {K : PySem.W.Frag} {C : Addr} {a : Str} {v : V} {H : Hp} {Q : XK} (h : ∀ d Hf, Same H Hf → Hf d = some (.xd [(a, v)]) → Q (.ref C) (some d) Hf) :
    ([v] : List V).length ≤ 1000 ∧ ∀ s, H s = none → spI1 K C a (.ref s :: ([v] ++ [])) (upd H s (exo s C none))
      (fun v H2 => v = .non ∧ ∃ (d : Addr) (fs : List (Str × V)), H2 s = some (exo s C (some d)) ∧ H2 d = some (exd d fs) ∧ H d = none ∧ Q (.ref C) (some d) (upd (del H2 s) d (.xd fs))) (fun _ _ _ => False) := by
  refine ⟨by show 1 ≤ 1000; decide, fun s hs => ⟨s, v, rfl, upd_same, fun d hd ne => ⟨rfl, d, [(a, v)], upd_same, ?_, ?_, ?_⟩⟩⟩
  · rw [upd_ne ne, upd_same]
  · rw [upd_ne ne] at hd; exact hd
  · have hd' : H d = none := by rw [upd_ne ne] at hd; exact hd
    refine h d _ (del_upd (o' := .lst []) hs hd' ne fun b nb nd => ?_) upd_same
    rw [upd_ne nb, upd_ne nd, upd_ne nb]
theorem fly2 {K : PySem.W.Frag} {C : Addr} {a b : Str} {v u : V} {H : Hp} {Q : XK} (h : ∀ d Hf, Same H Hf → Hf d = some (.xd [(b, u), (a, v)]) → Q (.ref C) (some d) Hf) :
    ([v, u] : List V).length ≤ 1000 ∧ ∀ s, H s = none → spI2 K C a b (.ref s :: ([v, u] ++ [])) (upd H s (exo s C none))
      (fun v H2 => v = .non ∧ ∃ (d : Addr) (fs : List (Str × V)), H2 s = some (exo s C (some d)) ∧ H2 d = some (exd d fs) ∧ H d = none ∧ Q (.ref C) (some d) (upd (del H2 s) d (.xd fs))) (fun _ _ _ => False) := by
  refine ⟨by show 2 ≤ 1000; decide, fun s hs => ⟨s, v, u, rfl, upd_same, fun d hd ne => ⟨rfl, d, [(b, u), (a, v)], ?_, upd_same, ?_, ?_⟩⟩⟩
  · rw [upd_ne ne.symm, upd_same]
  · rw [upd_ne ne] at hd; exact hd
  · have hd' : H d = none := by rw [upd_ne ne] at hd; exact hd
    refine h d _ (del_upd (o' := .lst []) hs hd' ne fun b nb nd => ?_) upd_same
    rw [upd_ne nd, upd_ne nb, upd_ne nd, upd_ne nb]
section
variable {P : Program} {w : World} {K : PySem.W.Frag} {mg : Str → Option Value} {base : Heap} {C f : Addr} {fd : FuncData} {qual : Str}
/-- an __init__ that stores its one parameter, its two parameters, under their names -/
theorem init1 {st : Stmt} {a : Str} (F : L2.Fun K "__init__" qual st f fd) (S : FnScope ["self", a] ["self", a] (defScope st)) (T : OexC K C) (na : PySem.W.findIn K (.ref C) a = some none) {p1 p2 p3 p4 : Pos} (hb : defBody st = [.Assign [.Attribute (.Name "self" p1) a p2] (.Name a p3) p4])
    (va : Vis (defScope st) a) (vs : Vis (defScope st) "self") (d1 : (a == ("__debug__" : Str)) = false) (d2 : (a == ("__classdict__" : Str)) = false) : FnOk P w K mg base CX0 1 f fd ["self", a] (spI1 K C a) := by
  refine F.ok S (fun vs H Q E h => ?_) (fun cdv A outer s H vs Q E hr h => ?_)
  · obtain ⟨s, v, rfl, _⟩ := h; rfl
  · obtain ⟨s, v, rfl, hs, q⟩ := h
    rw [hb]
    refine ⟨_, pss_one (ps_ost (pe_var (i := 0) rfl (by assumption)) (pe_var (i := 1) rfl (by assumption) d1 d2)), ?_⟩
    exact ⟨_, rfl, _, rfl, s, C, rfl, T, na, .inl ⟨hs, fun d hd ne => q d hd ne⟩⟩
theorem init2 {st : Stmt} {a b : Str} (F : L2.Fun K "__init__" qual st f fd) (S : FnScope ["self", a, b] ["self", a, b] (defScope st)) (T : OexC K C) (na : PySem.W.findIn K (.ref C) a = some none) (nb : PySem.W.findIn K (.ref C) b = some none) {p1 p2 p3 p4 q1 q2 q3 q4 : Pos}
    (hb : defBody st = [.Assign [.Attribute (.Name "self" p1) a p2] (.Name a p3) p4, .Assign [.Attribute (.Name "self" q1) b q2] (.Name b q3) q4])
    (va : Vis (defScope st) a) (vb : Vis (defScope st) b) (vs : Vis (defScope st) "self") (d1 : (a == ("__debug__" : Str)) = false) (d2 : (a == ("__classdict__" : Str)) = false) (d3 : (b == ("__debug__" : Str)) = false) (d4 : (b == ("__classdict__" : Str)) = false) : FnOk P w K mg base CX0 1 f fd ["self", a, b] (spI2 K C a b) := by
  refine F.ok S (fun vs H Q E h => ?_) (fun cdv A outer s H vs Q E hr h => ?_)
  · obtain ⟨s, v, u, rfl, _⟩ := h; rfl
  · obtain ⟨s, v, u, rfl, hs, q⟩ := h
    rw [hb]
    refine ⟨_, pss_cons (ps_ost (pe_var (i := 0) rfl (by assumption)) (pe_var (i := 1) rfl (by assumption) d1 d2)) (pss_one (ps_ost (pe_var (i := 0) rfl (by assumption)) (pe_var (i := 2) rfl (by assumption) d3 d4))), ?_⟩
    refine ⟨_, rfl, _, rfl, s, C, rfl, T, na, .inl ⟨hs, fun d hd ne => ?_⟩⟩
    exact ⟨_, rfl, _, rfl, s, C, rfl, T, nb, .inr ⟨d, _, upd_same, by rw [upd_ne ne, upd_same], (by show 1 ≤ 900; decide), q d hd ne⟩⟩
end
/-- isinstance(e, c), e the caught error at a, of the class D, its dict at dd -/
theorem call_isX {X : Cx} {a D : Addr} {oe : Obj} {cls : Value} {d : Option Addr} {pn : List (Addr × Obj)} (hz : Zc cls d oe) (hf : ∃ vs, oe.data = .fields vs) {x : Str} (k : ExK X.K X.mg x D) : CallR (X.suite a ((a, oe) :: pn)) (.builtin "isinstance")
    (fun xs H Q => ∃ (c : V) (cv : Value) (b : Bool) (dd : Addr) (fs : List (Str × V)), xs = [.ref a, c] ∧ cls = .ref D ∧ d = some dd ∧ H dd = some (.xd fs) ∧ RelV c cv ∧ (∀ u, RelV c u → u = cv) ∧ PySem.W.kitOne X.K (.ref D) cv = some b ∧ Q (.bl b) H) := by
  intro pins s σ H xs us Q I r h
  obtain ⟨c, cv, b, dd, fs, rfl, rfl, rfl, ea, _, hcv, e, q⟩ := h
  obtain ⟨u1, u2, rfl, r1, r2⟩ := vals2 r
  cases r1
  have ec := hcv _ r2
  subst ec
  obtain ⟨hget, _⟩ := I.pin (a, oe) (List.mem_append.mpr (.inl List.mem_cons_self))
  obtain ⟨vs, hv⟩ := hf
  have hx : ObjOk X.prog X.w H s.heap dd (.xd fs) := I.hok dd _ ea
  obtain ⟨mA, ⟨od, es, ep, ho, hl⟩, hr⟩ := hx
  have J : PySem.W.InstAt s.heap a oe D (some od) := ⟨hget, hz.1, by unfold PySem.W.notCls; rw [hv] <;> rfl, by rw [hz.2]; exact ho⟩
  have hc : (PySem.W.clsIn X.K D).isSome = true := by
    have h := k.hd
    unfold PySem.W.hasDictIn at h
    cases hh : PySem.W.clsIn X.K D with
    | none => rw [hh] at h; cases h
    | some cd => rfl
  exact PySem.W.kia_one (PySem.W.kitx_exc hc k.ga k.gg k.T.exC k.ca k.sp k.tk k.mr) I.kIn J e (fun z => nomatch z) fun tk => ⟨.bl b, H, I.kept (t' := tk) fun _ _ z => z, rfl, q⟩
/-- what isinstance and an except clause ask of own classes -/
theorem kit_self {K : PySem.W.Frag} {C : Addr} : PySem.W.kitOne K (.ref C) (.ref C) = some true := by
  unfold PySem.W.kitOne
  rw [if_pos (by exact beq_self_eq_true (Value.ref C))]
theorem kit_two {K : PySem.W.Frag} {D C : Addr} {b : Bool} (ne : (Value.ref D == Value.ref C) = false) (hd : PySem.W.hasDictIn K C = true) (ht : PySem.W.typeIn K (.ref C) = some (.type "type")) (hs : PySem.W.subIn K (.ref D) (.ref C) = some b) : PySem.W.kitOne K (.ref D) (.ref C) = some b := by
  have hc : (PySem.W.clsIn K C).isSome = true := by
    unfold PySem.W.hasDictIn at hd
    cases hh : PySem.W.clsIn K C with
    | none => rw [hh] at hd; cases hd
    | some cd => rfl
  unfold PySem.W.kitOne PySem.W.kitCls
  rw [ne, if_neg (by decide)]
  show (if ((PySem.W.clsIn K C).isSome && PySem.W.typeIn K (.ref C) == some (.type "type")) = true then PySem.W.subIn K (.ref D) (.ref C) else none) = some b
  rw [hc, ht, hs]; rfl
theorem kit_ve {K : PySem.W.Frag} {D : Addr} (hs : PySem.W.subIn K (.ref D) (.type "ValueError") = some true) : PySem.W.kitOne K (.ref D) (.type "ValueError") = some true := by
  unfold PySem.W.kitOne PySem.W.kitCls
  rw [show (Value.ref D == Value.type "ValueError") = false from rfl, if_neg (by decide)]
  show (if PySem.W.kitMeta "ValueError" = true then PySem.W.subIn K (.ref D) (.type "ValueError") else none) = some true
  rw [if_pos (by decide +kernel), hs]

/-! ### methods and makers of own classes -/
structure DefM (K : PySem.W.Frag) (C : Addr) (m qual : Str) (st : Stmt) (ps : List Str) : Prop where
  ex : ∃ (f : Addr) (fd : FuncData), L2.Fun K m qual st f fd ∧ Meth K C m f ∧ Binds K fd ps []
structure DefI (K : PySem.W.Frag) (C : Addr) (qual : Str) (st : Stmt) (ps : List Str) : Prop where
  ex : ∃ (f : Addr) (fd : FuncData), L2.Fun K "__init__" qual st f fd ∧ Mk K C f ∧ Binds K fd ps []
structure CalM (P : Program) (w : World) (K : PySem.W.Frag) (mg : Str → Option Value) (base : Heap) (CX : CXT) (C : Addr) (k : Nat) (m : Str) (sp : Sp) : Prop where
  ex : ∃ (f : Addr) (fd : FuncData) (ps : List Str), FnOk P w K mg base CX k f fd ps sp ∧ Cls K C ∧ Meth K C m f ∧ Binds K fd ps []
structure CalI (P : Program) (w : World) (K : PySem.W.Frag) (mg : Str → Option Value) (base : Heap) (CX : CXT) (C : Addr) (k : Nat) (sp : Sp) : Prop where
  ex : ∃ (f : Addr) (fd : FuncData) (ps : List Str), FnOk P w K mg base CX k f fd ps sp ∧ Mk K C f ∧ Binds K fd ps []
section
variable {P : Program} {w : World} {K : PySem.W.Frag} {mg : Str → Option Value} {base : Heap} {k : Nat} {x m qual : Str} {sp sp' : Sp} {C : Addr}
theorem Def.none {st : Stmt} {N ps : List Str} (D : Def K mg x st ps) (S : FnScope N ps (defScope st)) : Cal P w K mg base CX0 (k + 1) x (fun _ _ _ _ => False) := D.ok S (fun _ _ _ _ h => h.elim) (fun _ _ _ _ _ _ _ _ _ _ h => h.elim)
theorem Def.noneX {st : Stmt} {N ps : List Str} (D : Def K mg x st ps) (S : FnScope N ps (defScope st)) : Cal P w K mg base (L2.CX P w) (k + 1) x (fun _ _ _ _ => False) := D.okX S (fun _ _ _ _ h => h.elim) (fun _ _ _ _ _ _ _ _ _ _ h => h.elim)
theorem DefM.ok {st : Stmt} {N ps : List Str} (D : DefM K C m qual st ps) (S : FnScope N ps (defScope st)) (cl : Cls K C) (len : ∀ vs H Q E, sp vs H Q E → vs.length = ps.length)
    (hbody : ∀ (f : Addr) (cdv : Value) (A : Around) (outer : List Env) (s : Shared) (H : Hp) (vs : List V) (Q : VK) (E : XK), Room k (A.deeper (envOfC qual (defScope st) s.heap.objs.size f cdv)) → sp vs H Q E →
      ∃ t, PSs (cxOf CX0 P w K mg base N qual (defScope st) f cdv A outer s H E).nox (defBody st) t ∧ t { nx := fun _ H' => Q .non H', rt := Q } (start N vs) H) : CalM P w K mg base CX0 C (k + 1) m sp := by
  obtain ⟨f, fd, F, mm, b⟩ := D.ex
  exact ⟨f, fd, ps, F.ok S len (hbody f), cl, mm, b⟩
theorem DefM.okX {st : Stmt} {N ps : List Str} (D : DefM K C m qual st ps) (S : FnScope N ps (defScope st)) (cl : Cls K C) (len : ∀ vs H Q E, sp vs H Q E → vs.length = ps.length)
    (hbody : ∀ (f : Addr) (cdv : Value) (A : Around) (outer : List Env) (s : Shared) (H : Hp) (vs : List V) (Q : VK) (E : XK), Room k (A.deeper (envOfC qual (defScope st) s.heap.objs.size f cdv)) → sp vs H Q E →
      ∃ t, PSs (cxOf (L2.CX P w) P w K mg base N qual (defScope st) f cdv A outer s H E) (defBody st) t ∧ t { nx := fun _ H' => Q .non H', rt := Q } (start N vs) H) : CalM P w K mg base (L2.CX P w) C (k + 1) m sp := by
  obtain ⟨f, fd, F, mm, b⟩ := D.ex
  exact ⟨f, fd, ps, F.okX S len (hbody f), cl, mm, b⟩
theorem DefI.ok {st : Stmt} {N ps : List Str} (D : DefI K C qual st ps) (S : FnScope N ps (defScope st)) (len : ∀ vs H Q E, sp vs H Q E → vs.length = ps.length)
    (hbody : ∀ (f : Addr) (cdv : Value) (A : Around) (outer : List Env) (s : Shared) (H : Hp) (vs : List V) (Q : VK) (E : XK), Room k (A.deeper (envOfC qual (defScope st) s.heap.objs.size f cdv)) → sp vs H Q E →
      ∃ t, PSs (cxOf CX0 P w K mg base N qual (defScope st) f cdv A outer s H E).nox (defBody st) t ∧ t { nx := fun _ H' => Q .non H', rt := Q } (start N vs) H) : CalI P w K mg base CX0 C (k + 1) sp := by
  obtain ⟨f, fd, F, mm, b⟩ := D.ex
  exact ⟨f, fd, ps, F.ok S len (hbody f), mm, b⟩
end
section
variable {X : Cx} {k j : Nat} {x m : Str} {sp : Sp} {p pos apos : Pos} {o e : Expr} {es : List Expr} {ta : TE} {t : TA} {CX : CXT} {E : XK} {C : Addr}
theorem pe_mE {pl : Sem Bool} (c : CalM X.prog X.w X.K X.mg X.base CX C k m sp) (hr : Room j X.A) (hk : k ≤ j) (hx : Passes CX X E) (he : PE X o ta) (ha : PA X (e :: es) t)
    (hst : starEach (e :: es) X.env = (false, eval e X.env) :: starEach es X.env := by rfl) (hpl : (backTo pos (starEach es X.env)).any (·.1) = false := by rfl)
    (ht : eval (.Call (.Attribute o m apos) (e :: es) [] pos) X.env = (do
      let ov ← eval o X.env
      standAt apos.atName
      let (f, first) ← holding [ov] (getMethod ov m pl)
      callWith pos f first (backTo pos (starEach (e :: es) X.env)) (backToKw pos (keywordEach [] X.env))) := by rfl) :
    PE X (.Call (.Attribute o m apos) (e :: es) [] pos) (tMeth C m sp [] E ta t) := by
  obtain ⟨f, fd, ps, F, cl, mm, b⟩ := c.ex
  exact pe_meth (pl := pl) he cl mm F (hr.mono hk) b .nil hx ha hst hpl ht
theorem pe_mE0 {pl : Sem Bool} (c : CalM X.prog X.w X.K X.mg X.base CX C k m sp) (hr : Room j X.A) (hk : k ≤ j) (hx : Passes CX X E) (he : PE X o ta)
    (ht : eval (.Call (.Attribute o m apos) [] [] pos) X.env = (do
      let ov ← eval o X.env
      standAt apos.atName
      let (f, first) ← holding [ov] (getMethod ov m pl)
      callWith pos f first (backTo pos (starEach [] X.env)) (backToKw pos (keywordEach [] X.env))) := by rfl) :
    PE X (.Call (.Attribute o m apos) [] [] pos) (tMeth C m sp [] E ta tNil) := by
  obtain ⟨f, fd, ps, F, cl, mm, b⟩ := c.ex
  exact pe_meth0 (pl := pl) he cl mm F (hr.mono hk) b .nil hx ht
theorem pe_nw (c : CalI X.prog X.w X.K X.mg X.base CX0 C k sp) (hr : Room j X.A) (hk : k + 1 ≤ j) (hg : Gl X x) (hm : X.mg x = some (.ref C)) (ha : PA X (e :: es) t)
    (hdb : (x == ("__debug__" : Str)) = false := by decide) (he : starEach (e :: es) X.env = (false, eval e X.env) :: starEach es X.env := by rfl) (hpl : (backTo pos (starEach es X.env)).any (·.1) = false := by rfl) :
    PE X (.Call (.Name x p) (e :: es) [] pos) (tMake C sp [] E0 t) := by
  obtain ⟨f, fd, ps, F, mm, b⟩ := c.ex
  exact pe_make mm F (hr.mono hk) hg hm b .nil pass0 ha hdb he hpl
theorem pe_nw0 (c : CalI X.prog X.w X.K X.mg X.base CX0 C k sp) (hr : Room j X.A) (hk : k + 1 ≤ j) (hg : Gl X x) (hm : X.mg x = some (.ref C))
    (hdb : (x == ("__debug__" : Str)) = false := by decide) : PE X (.Call (.Name x p) [] [] pos) (tMake C sp [] E0 tNil) := by
  obtain ⟨f, fd, ps, F, mm, b⟩ := c.ex
  exact pe_make0 mm F (hr.mono hk) hg hm b .nil pass0 hdb
end
/-- the heap behind a change of some objects: all others stand -/
def SameBut (ps : List Addr) (H H' : Hp) : Prop := ∀ b o, b ∉ ps → H b = some o → H' b = some o
theorem Same.but {ps : List Addr} {H H' : Hp} (s : Same H H') : SameBut ps H H' := fun b o _ e => s b o e
theorem SameBut.refl {ps : List Addr} (H : Hp) : SameBut ps H H := fun _ _ _ e => e
theorem SameBut.trans {ps : List Addr} {H1 H2 H3 : Hp} (a : SameBut ps H1 H2) (b : SameBut ps H2 H3) : SameBut ps H1 H3 := fun c o n e => b c o n (a c o n e)
theorem SameBut.upd {ps : List Addr} {H H' : Hp} {a : Addr} {o : HO} (s : SameBut ps H H') (h : a ∈ ps) : SameBut ps H (upd H' a o) := fun b x n e => by
  have nb : b ≠ a := fun z => n (z ▸ h)
  rw [upd_ne nb]; exact s b x n e
theorem lk_hd {k : Str} {v : V} {r : List (Str × V)} : ((k, v) :: r).lookup k = some v := by
  simp [List.lookup]
theorem lk_tl {k a : Str} {v : V} {r : List (Str × V)} (h : ¬ k = a) : ((a, v) :: r).lookup k = r.lookup k := by
  show (match k == a with | true => some v | false => r.lookup k) = _
  rw [beq_eq_false_iff_ne.mpr h]
theorem pt_hd {k : Str} {v x : V} {r : List (Str × V)} : putF k v ((k, x) :: r) = (k, v) :: r := if_pos rfl
theorem pt_tl {k a : Str} {v x : V} {r s : List (Str × V)} (h : ¬ a = k) (e : putF k v r = s) : putF k v ((a, x) :: r) = (a, x) :: s := (if_neg h).trans (congrArg _ e)
theorem pt_nl {k : Str} {v : V} : putF k v [] = [(k, v)] := rfl
theorem made_same {H H2 : Hp} {x dx C : Addr} (nx : H x = none) (nd : H dx = none) (s : SameBut [x] (upd (upd H dx (.own x)) x (.ins C dx [])) H2) : Same H H2 := fun b o e => by
  have n1 : b ≠ x := ne_of_none e nx
  have n2 : b ≠ dx := ne_of_none e nd
  exact s b o (fun z => n1 (List.mem_singleton.mp z)) (by rw [upd_ne n1, upd_ne n2]; exact e)
theorem SameBut.new {ps : List Addr} {H H3 H4 : Hp} {t : Addr} (b3 : SameBut ps H H3) (b4 : SameBut [t] H3 H4) (h : H t = none) : SameBut ps H H4 := fun c o n e =>
  b4 c o (fun z => by rw [List.mem_singleton.mp z, h] at e; cases e) (b3 c o n e)
theorem Same.of_but {ps : List Addr} {H H1 H2 : Hp} (s : Same H H1) (b : SameBut ps H1 H2) (h : ∀ a ∈ ps, H a = none) : Same H H2 := fun c o e =>
  b c o (fun z => by rw [h c z] at e; cases e) (s c o e)
theorem SameBut.mono {ps qs : List Addr} {H H' : Hp} (s : SameBut ps H H') (h : ∀ a ∈ ps, a ∈ qs) : SameBut qs H H' := fun b o n e => s b o (fun z => n (h b z)) e

/-! ### the text by places -/
def top (i : Nat) : Stmt := PySem.Challenge.pw_wasmhost_k74_packed_numbers_come_back.main.body.getD i (.Pass ⟨0, 0, 0, 0⟩)
abbrev s_word_bytes : Stmt := top 4
abbrev s_mix_fours : Stmt := top 9
abbrev s_mix_behind : Stmt := top 10
abbrev s_mix : Stmt := top 11
abbrev s_check_bytes : Stmt := top 12
abbrev s_number_bytes : Stmt := top 13
abbrev s_pack : Stmt := top 14
abbrev s_numbers_of : Stmt := top 15
abbrev s_unpack : Stmt := top 16
abbrev s__law_tape : Stmt := top 18
abbrev s__law_draw : Stmt := top 19
abbrev s__law_equal : Stmt := top 20
abbrev s__law_groups : Stmt := top 21
abbrev s__law_check : Stmt := top 22
abbrev s__law_pack : Stmt := top 23
abbrev s__law_big : Stmt := top 24
abbrev s__law_unpack : Stmt := top 25
abbrev s_law : Stmt := top 26
theorem sc_word_bytes : FnScope ["number", "count", "data", "_"] ["number", "count"] (defScope s_word_bytes) := ⟨rfl, rfl, rfl, by decide +kernel, rfl, by decide +kernel, by decide +kernel⟩
theorem sc_mix_fours : FnScope ["check", "data", "modulus", "first", "second", "third", "fourth", "word"] ["check", "data", "modulus"] (defScope s_mix_fours) := ⟨rfl, rfl, rfl, by decide +kernel, rfl, by decide +kernel, by decide +kernel⟩
theorem sc_mix_behind : FnScope ["check", "data", "modulus", "rest", "byte", "split"] ["check", "data", "modulus"] (defScope s_mix_behind) := ⟨rfl, rfl, rfl, by decide +kernel, rfl, by decide +kernel, by decide +kernel⟩
theorem sc_mix : FnScope ["data", "modulus"] ["data", "modulus"] (defScope s_mix) := ⟨rfl, rfl, rfl, by decide +kernel, rfl, by decide +kernel, by decide +kernel⟩
theorem sc_check_bytes : FnScope ["data"] ["data"] (defScope s_check_bytes) := ⟨rfl, rfl, rfl, by decide +kernel, rfl, by decide +kernel, by decide +kernel⟩
theorem sc_number_bytes : FnScope ["numbers", "data", "number"] ["numbers"] (defScope s_number_bytes) := ⟨rfl, rfl, rfl, by decide +kernel, rfl, by decide +kernel, by decide +kernel⟩
theorem sc_pack : FnScope ["head", "numbers", "data"] ["head", "numbers"] (defScope s_pack) := ⟨rfl, rfl, rfl, by decide +kernel, rfl, by decide +kernel, by decide +kernel⟩
theorem sc_numbers_of : FnScope ["data", "numbers", "number", "shift", "byte"] ["data"] (defScope s_numbers_of) := ⟨rfl, rfl, rfl, by decide +kernel, rfl, by decide +kernel, by decide +kernel⟩
theorem sc_unpack : FnScope ["head", "data", "behind"] ["head", "data"] (defScope s_unpack) := ⟨rfl, rfl, rfl, by decide +kernel, rfl, by decide +kernel, by decide +kernel⟩
theorem sc__law_tape : FnScope ["script", "tape", "cell", "number", "k", "first"] ["script"] (defScope s__law_tape) := ⟨rfl, rfl, rfl, by decide +kernel, rfl, by decide +kernel, by decide +kernel⟩
theorem sc__law_draw : FnScope ["tape", "at", "many", "number"] ["tape", "at", "many"] (defScope s__law_draw) := ⟨rfl, rfl, rfl, by decide +kernel, rfl, by decide +kernel, by decide +kernel⟩
theorem sc__law_equal : FnScope ["actual", "due", "k"] ["actual", "due"] (defScope s__law_equal) := ⟨rfl, rfl, rfl, by decide +kernel, rfl, by decide +kernel, by decide +kernel⟩
theorem sc__law_groups : FnScope ["number", "found", "k"] ["number"] (defScope s__law_groups) := ⟨rfl, rfl, rfl, by decide +kernel, rfl, by decide +kernel, by decide +kernel⟩
theorem sc__law_check : FnScope ["data", "check", "byte"] ["data"] (defScope s__law_check) := ⟨rfl, rfl, rfl, by decide +kernel, rfl, by decide +kernel, by decide +kernel⟩
theorem sc__law_pack : FnScope ["head", "numbers", "data", "number"] ["head", "numbers"] (defScope s__law_pack) := ⟨rfl, rfl, rfl, by decide +kernel, rfl, by decide +kernel, by decide +kernel⟩
theorem sc__law_big : FnScope ["tape", "at", "pick", "number", "k"] ["tape", "at"] (defScope s__law_big) := ⟨rfl, rfl, rfl, by decide +kernel, rfl, by decide +kernel, by decide +kernel⟩
theorem sc__law_unpack : FnScope ["head", "data", "passed", "answer", "e"] ["head", "data"] (defScope s__law_unpack) := ⟨rfl, rfl, rfl, by decide +kernel, rfl, by decide +kernel, by decide +kernel⟩
theorem sc_law : FnScope ["script", "tape", "head", "numbers", "passed", "data", "modulus", "check", "byte", "place", "spoilt", "word", "other", "k"] ["script"] (defScope s_law) := ⟨rfl, rfl, rfl, by decide +kernel, rfl, by decide +kernel, by decide +kernel⟩
/-- where the own classes stand -/
structure Cs where
  C_HostError : Addr
  C_DamagedSave : Addr
  I_DamagedSave : Addr
  D_DamagedSave : FuncData
abbrev i_DamagedSave : Stmt := inClass (top 2) 0
theorem sci_DamagedSave : FnScope ["self", "place"] ["self", "place"] (defScope i_DamagedSave) := ⟨rfl, rfl, rfl, by decide +kernel, rfl, by decide +kernel, by decide +kernel⟩
/-- what the top leaves: built-in names that nothing binds, own classes -/
structure Tp (w : World) (K : PySem.W.Frag) (mg : Str → Option Value) (cs : Cs) : Prop where
  m_bool : mg "bool" = none
  m_int : mg "int" = none
  m_isinstance : mg "isinstance" = none
  m_len : mg "len" = none
  m_list : mg "list" = none
  m_range : mg "range" = none
  m_str : mg "str" = none
  m_tuple : mg "tuple" = none
  m_zip : mg "zip" = none
  g_HostError : mg "HostError" = some (.ref cs.C_HostError)
  g_DamagedSave : mg "DamagedSave" = some (.ref cs.C_DamagedSave)
  e_DamagedSave : ExK K mg "DamagedSave" cs.C_DamagedSave
  iC_DamagedSave : PySem.W.findIn K (.ref cs.C_DamagedSave) "__init__" = some (some (.ref cs.I_DamagedSave))
  tI_DamagedSave : PySem.W.typeIn K (.ref cs.I_DamagedSave) = some (.type "function")
  F_DamagedSave : L2.Fun K "__init__" "DamagedSave.__init__" i_DamagedSave cs.I_DamagedSave cs.D_DamagedSave
  b_DamagedSave : Binds K cs.D_DamagedSave ["self", "place"] []
  no_DamagedSave_place : PySem.W.findIn K (.ref cs.C_DamagedSave) "place" = some none
  kit_DamagedSave_HostError : PySem.W.kitOne K (.ref cs.C_DamagedSave) (.ref cs.C_HostError) = some true
  exm_DamagedSave_HostError : PySem.W.exmOne K (.ref cs.C_DamagedSave) (.ref cs.C_HostError) = some true
  kit_DamagedSave_DamagedSave : PySem.W.kitOne K (.ref cs.C_DamagedSave) (.ref cs.C_DamagedSave) = some true
  exm_DamagedSave_DamagedSave : PySem.W.exmOne K (.ref cs.C_DamagedSave) (.ref cs.C_DamagedSave) = some true
  kit_DamagedSave_VE : PySem.W.kitOne K (.ref cs.C_DamagedSave) (.type "ValueError") = some true
  i_CHECK_MODULUS : ∃ t, mg "CHECK_MODULUS" = some (.int 2147483647 t)
  i_CHECK_BYTES : ∃ t, mg "CHECK_BYTES" = some (.int 4 t)
  i_MANY_BYTES : ∃ t, mg "MANY_BYTES" = some (.int 16 t)
theorem in_DamagedSave {P : Program} {w : World} {K : PySem.W.Frag} {mg : Str → Option Value} {base : Heap} {cs : Cs} (T : Tp w K mg cs) : FnOk P w K mg base CX0 1 cs.I_DamagedSave cs.D_DamagedSave ["self", "place"] (spI1 K cs.C_DamagedSave "place") :=
  init1 T.F_DamagedSave sci_DamagedSave T.e_DamagedSave.T T.no_DamagedSave_place rfl (.inl rfl) (.inl rfl) (by decide) (by decide)
/-! ### t[::-1] of a tuple; a loop over the turned copy of a list or a tuple -/
theorem rv_adj (n : Nat) : Builtin.Slice.sliceAdjust none none (-1) (n : Int) = ((n : Int) - 1, -1) := by
  unfold Builtin.Slice.sliceAdjust
  rfl
theorem rv_places (n : Nat) : Builtin.Slice.slicePlaces ((n : Int) - 1) (-1) (-1) = n := by
  unfold Builtin.Slice.slicePlaces
  rw [if_neg (by omega)]
  by_cases h : (n : Int) - 1 > -1
  · rw [if_pos h, show (-(-1) : Int) = 1 from rfl, Int.ediv_one]; omega
  · rw [if_neg h]; show 0 = n; omega
theorem fm_congr {α β : Type} {f g : α → Option β} : ∀ {l : List α}, (∀ m ∈ l, f m = g m) → l.filterMap f = l.filterMap g
  | [], _ => rfl
  | a :: r, h => by
    rw [List.filterMap_cons, List.filterMap_cons, h a (List.mem_cons_self ..), fm_congr fun m hm => h m (List.mem_cons_of_mem _ hm)]
theorem rv_pick (xs : Array Value) : ((List.range xs.size).filterMap fun (m : Nat) => xs[((xs.size : Int) - 1 + (m : Int) * (-1)).toNat]?).toArray = xs.toList.reverse.toArray := by
  congr 1
  have e : ∀ m ∈ List.range xs.size, (fun (m : Nat) => xs[((xs.size : Int) - 1 + (m : Int) * (-1)).toNat]?) m = (fun (m : Nat) => xs[xs.size - 1 - m]?) m := by
    intro m hm
    have h := List.mem_range.mp hm
    have : ((xs.size : Int) - 1 + (m : Int) * (-1)).toNat = xs.size - 1 - m := by omega
    show xs[_]? = xs[_]?
    rw [this]
  rw [fm_congr e, ← PySem.W.krv_all, ← List.filterMap_reverse, ← PySem.W.krv_range, List.filterMap_map]
  rfl
section
variable {P : Program} {w : World} {A : Around} {E : Value → Shared → Prop} {s : Shared}
theorem rv_applied {sl : Addr} {u : Tok} {n : Nat} {Q : Int × Int × Nat → Shared → Prop} (hs : s.heap.IsSliceOf sl .none .none (.int (-1) u)) (h : Q ((n : Int) - 1, -1, n) s) :
    wpAny (model P w) A (Builtin.Slice.sliceApplied (.ref sl) (pure (n : Int))) Q E s := by
  obtain ⟨o, ho, hc, hd⟩ := hs
  unfold Builtin.Slice.sliceApplied Builtin.Slice.sliceFields
  refine wpAny_bind (wpAny_bind (wpAny_field ho hd (x := Value.none) rfl (wpAny_bind (wpAny_field ho hd (x := Value.none) rfl (wpAny_bind (wpAny_field ho hd (x := .int (-1) u) rfl (wpAny_pure ?_)))))))
  refine wpAny_bind (HT.slicePart_ (.int (-1) u) ?_)
  show wpAny _ _ (if ((-1 : Int) == 0) = true then _ else _) _ _ s
  rw [if_neg (by decide)]
  refine wpAny_bind (HT.slicePart_ .none (wpAny_bind (HT.slicePart_ .none (wpAny_bind (wpAny_pure ?_)))))
  show wpAny _ _ (match Builtin.Slice.sliceAdjust none none (-1) (n : Int) with | (lo, hi) => pure (lo, (-1 : Int), Builtin.Slice.slicePlaces lo hi (-1))) _ _ s
  rw [rv_adj]
  show wpAny _ _ (pure ((n : Int) - 1, (-1 : Int), Builtin.Slice.slicePlaces ((n : Int) - 1) (-1) (-1))) _ _ s
  rw [rv_places]
  exact wpAny_pure h
theorem rv_getItem {t sl : Addr} {xs : Array Value} {u : Tok} {Q : Value → Shared → Prop} (ht : IsTup s.heap t xs) (hs : s.heap.IsSliceOf sl .none .none (.int (-1) u))
    (h : Q (.ref s.heap.objs.size) { s with heap := s.heap.push { cls := .type "tuple", data := .seq xs.toList.reverse.toArray } }) (hz : xs.size ≤ sizeLine) :
    wpAny (model P w) A (getItem (.ref t) (.ref sl)) Q E s := by
  have hk : sizeOk (.seq xs.toList.reverse.toArray) := by
    show xs.toList.reverse.toArray.size ≤ sizeLine
    rw [List.size_toArray, List.length_reverse, Array.length_toList]
    exact hz
  have hT : s.TypeIs (.ref sl) "slice" := by obtain ⟨o, ho, hc, _⟩ := hs; exact ⟨o, ho, hc⟩
  unfold getItem
  try with_reducible refine wpAny_holding ?_
  try refine wpAny_bind (wpAny_pure ?_)
  refine wpAny_bind (wpAny_sequenceKey ht.typeIs (by decide) ?_)
  refine wpAny_bind (wpAny_callSpecial?_slot (name := Str.ofString "__getitem__") ht.typeIs PyProof.Rows.slot_tuple_getitem
    (wpAny_call_entry PyProof.Rows.slot_tuple_getitem ht.typeIs entry_tuple_getitem ?_ (args_tuple_getitem _ _)))
  show wpAny _ _ (Builtin.Tuple.tupleItemsOf (.ref t) >>= _) _ _ s
  refine wpAny_bind (tupleItemsOf_ ht ?_)
  refine wpAny_bind (wpAny_typeOf hT ?_)
  rw [if_pos (by decide)]
  refine wpAny_bind (rv_applied hs ?_)
  have hn : ¬ (((xs.size : Int) - 1 == 0 && (-1 : Int) == 1 && xs.size == xs.size) = true) := by
    rw [show ((-1 : Int) == 1) = false from rfl, Bool.and_false, Bool.false_and]; decide
  show wpAny _ _ (if ((xs.size : Int) - 1 == 0 && (-1 : Int) == 1 && xs.size == xs.size) = true then _ else _) _ _ s
  rw [if_neg hn, rv_pick]
  first
    | exact wpAny_bind (m := Builtin.Tuple.tupleExact _) (wpAny_newObj_type (wpAny_pure ⟨_, rfl, wpAny_pure h⟩) hk)
    | exact wpAny_bind (m := Builtin.Tuple.tupleExact _) (wpAny_newObj_type (wpAny_bind (wpAny_pure (wpAny_pure ⟨_, rfl, wpAny_pure h⟩))) hk)
    | exact wpAny_bind (wpAny_bind (m := Builtin.Tuple.tupleExact _) (wpAny_newObj_type (wpAny_pure (wpAny_pure ⟨_, rfl, wpAny_pure h⟩)) hk))
    | exact wpAny_bind (wpAny_bind (m := Builtin.Tuple.tupleExact _) (wpAny_newObj_type (wpAny_pure ⟨_, rfl, wpAny_pure h⟩) hk))
end
section
variable {X : Cx}
def tRevT (K : PySem.W.Frag) (te : TE) : TE := fun σ H Q => te σ H fun x H1 => ∃ a xs, x = .ref a ∧ SqT K H1 a xs ∧ ∀ p, H1 p = none → Q (.ref p) (upd H1 p (.tup xs.reverse))
theorem pe_revT {e : Expr} {te : TE} {k : Nat} {p1 p2 p3 pos : Pos} (he : PE X e te) : PE X (.Subscript e (.Slice none none (some (.UnaryOp .USub (.Constant (.int 1) k p1) p2)) p3) pos) (tRevT X.K te) := by
  refine ⟨fun pins s σ H Q I h => Subscript_ (thn (he.run pins s σ H _ I h) fun v s1 ⟨x, H1, I1, r1, q1⟩ => ?_)⟩
  obtain ⟨a, xs, rfl, hx, q⟩ := q1
  cases r1
  have hm : PO X (some (.UnaryOp .USub (.Constant (.int 1) k p1) p2)) (tPart (tUn (rU fun i => .int (-i)) (tC (.int 1)))) := po_some (pe_un un_neg pe_int)
  refine wpAny_Slice (thn (po_none.run pins s1 σ H1 (fun o H2 => o = none ∧ H2 = H1) I1 ⟨rfl, rfl⟩) ?_)
  rintro vl s2 ⟨_, _, I2, pl, rfl, rfl⟩
  refine thn (po_none.run pins s2 σ _ (fun o H3 => o = none ∧ H3 = _) I2 ⟨rfl, rfl⟩) ?_
  rintro vu s3 ⟨_, _, I3, pu, rfl, rfl⟩
  refine thn (hm.run pins s3 σ _ (fun o H4 => o = some (-1) ∧ H4 = _) I3 ⟨1, rfl, -1, rfl, rfl, rfl⟩) ?_
  rintro vs s4 ⟨_, H4, I4, ps, rfl, rfl⟩
  cases pl
  cases pu
  cases ps with
  | int _ u =>
    have I5 : Inv X pins σ H4 { s4 with heap := s4.heap.push { cls := .type "slice", data := .fields #[.none, .none, .int (-1) u] } } := I4.kept (t' := s4.toks) fun b ob z => Heap.get?_push_of_some _ z
    obtain ⟨its, r, ht, hz⟩ := I5.tuple hx
    show wpAny (model X.prog X.w) X.A (subscriptTail e (.Slice none none (some (.UnaryOp .USub (.Constant (.int 1) k p1) p2)) p3) (.ref a) (.ref s4.heap.objs.size)) (EP X pins σ Q) X.xe { s4 with heap := s4.heap.push { cls := .type "slice", data := .fields #[.none, .none, .int (-1) u] } }
    refine tail_any (ops := [.ref a, .ref s4.heap.objs.size]) ht.typeIs (PyProof.Rows.slot_tuple_getitem.lookup) ?_ (by with_unfolding_all rfl)
    refine rv_getItem ht (Heap.IsSliceOf.new _ .none .none (.int (-1) u)) ?_ (by rw [List.size_toArray]; exact r.length ▸ hz)
    exact ⟨.ref _, _, I5.laid (t' := s4.toks) (o := .tup xs.reverse) (fun b ob z => Heap.get?_push_of_some _ z) (Nat.le_refl _) ⟨by rw [List.length_reverse]; exact hz, _, r.reverse, IsTup.new _ _⟩, rfl, q _ (I5.hok.fresh (Nat.le_refl _))⟩
theorem pi_or {tg e : Expr} {u t : TI} (h1 : PI X tg e u) (h2 : PI X tg e t) : PI X tg e (fun σ H R => u σ H R ∨ t σ H R) :=
  ⟨fun pins s σ H R I h => h.elim (h1.run pins s σ H R I) (h2.run pins s σ H R I)⟩
end
theorem for_tupD {K : PySem.W.Frag} {a : Addr} {xs : List V} {g : TG} {tb : TS} {nx : L2.St → Hp → Prop} {rt : VK} {σ : L2.St} {H : Hp} (Pv : Nat → L2.St → Hp → Prop) (h0 : Pv 0 σ H) (hl : ∀ i σ H, i ≤ xs.length → Pv i σ H → SqT K H a xs)
    (hs : ∀ i x σ H, xs[i]? = some x → Pv i σ H → g x σ H fun σ2 H2 => tb { nx := Pv (i + 1), rt := rt, bk := nx, ct := Pv (i + 1) } σ2 H2) (hd : ∀ σ H, Pv xs.length σ H → nx σ H) :
    ∃ W : Nat → Nat → L2.St → Hp → Prop, (∃ m, W 0 m σ H) ∧ ∀ i m σ H, W i m σ H → ((Itt K a).stop i H ∧ nx σ H) ∨ ((Itt K a).go i H ∧ ∃ N : L2.St → Hp → Prop, (∀ σ' H', N σ' H' → ∃ m', m' < m ∧ W (i + 1) m' σ' H') ∧
      ∀ x H', (Itt K a).yld i H x H' → g x σ H' fun σ2 H2 => tb { nx := N, rt := rt, bk := nx, ct := N } σ2 H2) := for_tup (D := { nx := nx, rt := rt }) Pv h0 hl hs hd

/-! ### lists of ints that are the same -/
theorem dp_all {K : PySem.W.Frag} {H : Hp} : ∀ ns : List Int, DpAll K H (ns.map V.int) (ns.map PyData.int)
  | [] => .nil
  | _ :: r => .cons (.int _) (dp_all r)
theorem canlay_ints : ∀ ns : List Int, PyData.canLayAll0 (ns.map PyData.int) = true
  | [] => rfl
  | _ :: r => by
    show PyData.canLayAll0 (PyData.int _ :: r.map PyData.int) = true
    simp only [PyData.canLayAll0, PyData.canLay0, canlay_ints r, Bool.and_self]
theorem depth_ints : ∀ ns : List Int, PyData.depthAll (ns.map PyData.int) ≤ 63
  | [] => by simp [PyData.depthAll]
  | _ :: r => by
    have h := depth_ints r
    simp [PyData.depthAll, PyData.depth] at h ⊢
    exact h
theorem shaped_ints (ns : List Int) : SeqAt.shaped (.list (ns.map PyData.int)) = true := by
  unfold SeqAt.shaped
  rw [Bool.and_eq_true]
  refine ⟨?_, decide_eq_true ?_⟩
  · simp only [PyData.canLay0, canlay_ints]
  · have h := depth_ints ns
    simp only [PyData.depth] at h ⊢
    omega
theorem eqD_same {K : PySem.W.Frag} {H : Hp} {x y : V} {d : PyData} {Q : VK} (h1 : Dp K H x d) (h2 : Dp K H y d) (s : SeqAt.shaped d = true) (q : Q (.bl true) H) : rEqD K x y H Q :=
  ⟨d, d, h1, h2, s, s, by rw [SeqAt.eqv_refl d (SeqAt.canLay_of_shaped s)]; exact q⟩
theorem neD_same {K : PySem.W.Frag} {H : Hp} {x y : V} {d : PyData} {Q : VK} (h1 : Dp K H x d) (h2 : Dp K H y d) (s : SeqAt.shaped d = true) (q : Q (.bl false) H) : rNeD K x y H Q :=
  ⟨d, d, h1, h2, s, s, by rw [SeqAt.eqv_refl d (SeqAt.canLay_of_shaped s)]; exact q⟩
theorem dp_ints {K : PySem.W.Frag} {H : Hp} {a : Addr} {ns : List Int} (h : SqL K H a (ns.map V.int)) : Dp K H (.ref a) (.list (ns.map PyData.int)) := .lst h (dp_all ns)
theorem eqv_ints (ns : List Int) : PyData.eqv (.list (ns.map PyData.int)) (.list (ns.map PyData.int)) = true := SeqAt.eqv_refl _ (SeqAt.canLay_of_shaped (shaped_ints ns))

/-! ### ifs and tests whose answer is known -/
theorem ifNe {x y : Int} {A B : Prop} (e : x = y) (h : B) : if (!decide (V.int x = V.int y)) = true then A else B := by
  subst e
  rw [decide_eq_true rfl]
  exact h
theorem ifNeN {x y : Int} {A B : Prop} (e : ¬ x = y) (h : A) : if (!decide (V.int x = V.int y)) = true then A else B := by
  rw [decide_eq_false (fun z => e (V.int.inj z))]
  exact h
theorem eqT {x y : Int} (e : x = y) : decide (V.int x = V.int y) = true := decide_eq_true (congrArg V.int e)
theorem qT {x y : Int} {Q : VK} {H : Hp} (e : x = y) (h : Q (.bl true) H) : Q (.bl (decide (V.int x = V.int y))) H := by rw [eqT e]; exact h
theorem orV {t u : TE} {σ : L2.St} {H : Hp} {Q : VK} (b1 b2 : Bool) (h1 : ∀ Q, (∀ H', Same H H' → Q (.bl b1) H') → t σ H Q) (h2 : ∀ H' Q, Q (.bl b2) H' → u σ H' Q) (q : ∀ H', Same H H' → Q (.bl (b1 || b2)) H') : tOrV t u σ H Q := by
  refine h1 _ fun H' s => ⟨b1, rfl, ?_⟩
  cases b1 with
  | true => rw [if_pos rfl]; exact q _ s
  | false => rw [if_neg (by decide)]; exact h2 _ _ (q _ s)
theorem andV {t u : TE} {σ : L2.St} {H : Hp} {Q : VK} (b1 b2 : Bool) (h1 : ∀ Q, Q (.bl b1) H → t σ H Q) (h2 : ∀ Q, Q (.bl b2) H → u σ H Q) (q : Q (.bl (b1 && b2)) H) : tAndV t u σ H Q := by
  refine h1 _ ⟨b1, rfl, ?_⟩
  cases b1 with
  | true => rw [if_pos rfl]; exact h2 _ q
  | false => rw [if_neg (by decide)]; exact q
theorem orF {t u : TT} {σ : L2.St} {H : Hp} {Q : Bool → Hp → Prop} (h1 : ∀ Q, (∀ H', Same H H' → Q false H') → t σ H Q) (h2 : ∀ H', Same H H' → ∀ Q, (∀ H'', Same H' H'' → Q false H'') → u σ H' Q) (q : ∀ H', Same H H' → Q false H') : tOr t u σ H Q := by
  refine h1 _ fun H' s => ?_
  rw [if_neg (by decide)]
  exact h2 _ s _ fun H'' s' => q _ (s.trans s')
theorem neF {x y : Int} {Q : Bool → Hp → Prop} {H : Hp} (e : x = y) (h : Q false H) : Q (!decide (V.int x = V.int y)) H := by rw [eqT e]; exact h
theorem ifEq {x y : Int} {A B : Prop} (e : x = y) (h : A) : if decide (V.int x = V.int y) = true then A else B := by rw [eqT e]; exact h
theorem ifEqN {x y : Int} {A B : Prop} (e : ¬ x = y) (h : B) : if decide (V.int x = V.int y) = true then A else B := by
  rw [decide_eq_false (fun z => e (V.int.inj z))]; exact h
theorem ifS {x y : Str} {A B : Prop} (e : x = y) (h : A) : if decide (V.str x = V.str y) = true then A else B := by rw [if_pos (decide_eq_true (congrArg V.str e))]; exact h
theorem ifSN {x y : Str} {A B : Prop} (e : ¬ x = y) (h : B) : if decide (V.str x = V.str y) = true then A else B := by
  rw [if_neg (fun z => e (V.str.inj (of_decide_eq_true z)))]; exact h
theorem ifNeS {x y : Str} {A B : Prop} (e : x = y) (h : B) : if (!decide (V.str x = V.str y)) = true then A else B := by
  subst e
  rw [decide_eq_true rfl]
  exact h
theorem qTS {x y : Str} {Q : VK} {H : Hp} (e : x = y) (h : Q (.bl true) H) : Q (.bl (decide (V.str x = V.str y))) H := by rw [decide_eq_true (congrArg V.str e)]; exact h
theorem call_isiS {X : Cx} {a : Addr} {ps : List (Addr × Obj)} : CallR (X.suite a ps) (.builtin "isinstance") (rIsi X.K) := call_isi
theorem for_tupE {K : PySem.W.Frag} {a : Addr} {xs : List V} {g : TG} {tb : TS} {nx : L2.St → Hp → Prop} {rt : VK} {σ : L2.St} {H : Hp} (Pv : Nat → L2.St → Hp → Prop) (h0 : Pv 0 σ H) (hl : ∀ i σ H, i ≤ xs.length → Pv i σ H → SqT K H a xs)
    (hs : ∀ i x σ H, xs[i]? = some x → Pv i σ H → g x σ H fun σ2 H2 => tb { nx := Pv (i + 1), rt := rt, bk := nx, ct := Pv (i + 1) } σ2 H2) (hd : ∀ σ H, Pv xs.length σ H → nx σ H) :
    ∃ W : Nat → Nat → L2.St → Hp → Prop, (∃ m, W 0 m σ H) ∧ ∀ i m σ H, W i m σ H → ((Itt K a).stop i H ∧ nx σ H) ∨ ((Itt K a).go i H ∧ ∃ N : L2.St → Hp → Prop, (∀ σ' H', N σ' H' → ∃ m', m' < m ∧ W (i + 1) m' σ' H') ∧
      ∀ x H', (Itt K a).yld i H x H' → g x σ H' fun σ2 H2 => tb { nx := N, rt := rt, bk := nx, ct := N } σ2 H2) := for_tup (D := { nx := nx, rt := rt }) Pv h0 hl hs hd
theorem isi_bool {K : PySem.W.Frag} {H : Hp} {b : Bool} {Q : VK} (q : Q (.bl true) H) : rIsi K [.bl b, .ty "bool"] H Q := ⟨.bl b, .ty "bool", _, _, true, rfl, .ty _, .base (.bl _), kit_ty (by decide +kernel), q⟩
theorem ne_of_nd {x y : Int} (h : (!decide (V.int x = V.int y)) = true) : ¬ x = y := fun e => by
  rw [decide_eq_true (congrArg V.int e)] at h; cases h
theorem eq_of_nd {x y : Int} (h : ¬ (!decide (V.int x = V.int y)) = true) : x = y := by
  by_cases e : x = y
  · exact e
  · exact absurd (by rw [decide_eq_false (fun z => e (V.int.inj z))]; rfl) h
theorem eq_of_d {x y : Int} (h : decide (V.int x = V.int y) = true) : x = y := V.int.inj (of_decide_eq_true h)
theorem ne_of_d {x y : Int} (h : ¬ decide (V.int x = V.int y) = true) : ¬ x = y := fun e => h (decide_eq_true (congrArg V.int e))
theorem sign_of (d : Nat) : -1 ≤ ([1, -1] : List Int).getD d 0 ∧ ([1, -1] : List Int).getD d 0 ≤ 1 := by
  match d with
  | 0 => decide
  | 1 => decide
  | _ + 2 => exact (by decide : (-1 : Int) ≤ 0 ∧ (0 : Int) ≤ 1)
section
variable {X : Cx} {s : Shared} {H : Hp} {sc : Scope} {en : Env} {fp : List Addr}
theorem ix_listB : IxR (X.blk s H sc en fp) (L2.rIxL X.K) := ix_list
theorem ix_tupB : IxR (X.blk s H sc en fp) (L2.rIxT X.K) := ix_tup
theorem call_isiB : CallR (X.blk s H sc en fp) (.builtin "isinstance") (rIsi X.K) := call_isi
end
theorem andIf {t : TE} {σ : L2.St} {H : Hp} {Q : VK} {b1 b2 : Bool} (h : ∀ Q', Q' (.bl b2) H → t σ H Q') (q : Q (.bl (b1 && b2)) H) : if b1 = true then t σ H Q else Q (.bl false) H := by
  cases b1 with
  | true => exact h _ q
  | false => exact q
theorem op_eqDS {X : Cx} {a : Addr} {ps : List (Addr × Obj)} (hu : X.A.units + 64 < cLine) : OpR (X.suite a ps) (compareOp .Eq) (rEqD X.K) := op_eqD (X := X.suite a ps) hu
theorem isi_of {K : PySem.W.Frag} {H : Hp} {x : V} {n : String} {t : Value} {b : Bool} {Q : VK} (h : TyX K H x t) (k : PySem.W.kitOne K t (.type n) = some b) (q : Q (.bl b) H) : rIsi K [x, .ty n] H Q := ⟨x, .ty n, t, _, b, rfl, .ty _, h, k, q⟩

/-! ### lists of texts, heaps that grow -/
theorem newE {H H' : Hp} {p : Addr} {xs : List V} {zs : List Str} (h : H p = none) (e : upd H p (.lst xs) = H') (hx : xs = zs.map V.str) : Same H H' ∧ H' p = some (.lst (zs.map V.str)) := by
  subst e hx
  exact ⟨Same.new h, upd_same⟩
theorem at_strs {zs : List Str} {k : Nat} (h : k < zs.length) : ∃ z ∈ zs, atI (zs.map V.str) (k : Int) = some (.str z) :=
  ⟨zs[k], List.getElem_mem h, atI_nat (by rw [List.getElem?_map, List.getElem?_eq_getElem h]; rfl)⟩
theorem none_of {H H' : Hp} {p : Addr} (s : Same H H') (h : H' p = none) : H p = none := by
  cases e : H p with
  | none => rfl
  | some o => rw [s _ _ e] at h; cases h
theorem catE {H : Hp} {l b : Addr} {zs ys : List Str} {Q : VK} (hl : H l = some (.lst (zs.map V.str))) (hb : H b = some (.lst (ys.map V.str))) (hn : zs.length + ys.length ≤ 1000) (q : ∀ p H', Same H H' → H p = none → H' p = some (.lst ((zs ++ ys).map V.str)) → Q (.ref p) H') : rCat (.ref l) (.ref b) H Q :=
  ⟨l, b, _, _, rfl, rfl, hl, hb, by rw [List.length_map, List.length_map]; exact small64 (by omega), fun p hp => q p _ (Same.new hp) hp (by rw [upd_same, List.map_append])⟩
def LstS (H : Hp) (Q : VK) (zs : List Str) : Prop := ∀ p H', Same H H' → H p = none → H' p = some (.lst (zs.map V.str)) → Q (.ref p) H'
theorem lc_mapS {K : PySem.W.Frag} {a : Addr} {zs : List Str} {j : Nat} {te : TE} {σ : L2.St} {H1 : Hp} {D : Addr} {Qd : Hp → Prop} (f : Str → Str) (hD : H1 D = none) (hS : SqL K H1 a (zs.map V.str)) (hn : zs.length ≤ 100000)
    (hs : ∀ z H Q, z ∈ zs → Same H1 H → (∀ H', Same H H' → Q (.str (f z)) H') → te ((σ.set j none).set j (some (.str z))) H Q) (hd : ∀ H, Same H1 H → H D = some (.lst ((zs.map f).map V.str)) → Qd H) :
    ∃ W : Nat → Nat → Hp → Prop, (∃ m, W 0 m (upd H1 D (.lst []))) ∧ ∀ i m H, W i m H →
      ((Itl K a).stop i H ∧ Qd H) ∨ ((Itl K a).go i H ∧ ∃ Nx : Hp → Prop, (∀ H', Nx H' → ∃ m', m' < m ∧ W (i + 1) m' H') ∧ ∀ x H', (Itl K a).yld i H x H' → gName j x (wipe σ [j]) H' fun σ2 H2 => wipe σ2 [j] = wipe σ [j] ∧ tYes σ2 H2 fun b H3 =>
        if b = true then te σ2 H3 fun y H4 => ∃ acc, H4 D = some (.lst acc) ∧ acc.length < sizeLine ∧ Nx (upd H4 D (.lst (acc ++ [y]))) else Nx H3) := by
  refine lc_map (f := fun v => match v with | .str z => .str (f z) | v => v) hD hS (by rw [List.length_map]; exact hn) (fun x H2 Q2 hx s2 q2 => ?_) (fun H2 s2 hD2 => ?_)
  · obtain ⟨z, hz, rfl⟩ := List.mem_map.mp hx
    exact hs z H2 Q2 hz s2 q2
  · refine hd H2 s2 ?_
    rw [hD2, List.map_map, List.map_map]; rfl
theorem flat_strs : ∀ zs : List Str, (zs.map V.str).all flatV = true
  | [] => rfl
  | _ :: r => flat_strs r
theorem inV_mem (z : Str) (zs : List Str) : inV (.str z) (zs.map V.str) = true ↔ z ∈ zs := by
  unfold inV
  rw [List.any_map, List.any_eq_true]
  constructor
  · rintro ⟨y, hy, e⟩
    have e' : (y == z) = true := e
    rw [← eq_of_beq e']; exact hy
  · intro h
    exact ⟨z, h, (beq_self_eq_true z : (z == z) = true)⟩

/-- a name that the module binds to an int -/
theorem pe_gint {X : Cx} {x : Str} {p : Pos} {i : Int} (hg : Gl X x) (hm : ∃ t, X.mg x = some (.int i t)) (hdb : (x == ("__debug__" : Str)) = false := by decide) : PE X (.Name x p) (tC (.int i)) := by
  obtain ⟨t, h⟩ := hm
  exact pe_glob hg h ⟨t, rfl⟩ hdb

/-! ### a loop over zip of two -/
theorem sqT_same {K : PySem.W.Frag} {H H' : Hp} {a : Addr} {xs : List V} (e : Same H H') (h : SqT K H a xs) : SqT K H' a xs := by
  rcases h with (h | ⟨o, h⟩) | h
  · exact .inl (.inl (e _ _ h))
  · exact .inl (.inr ⟨o, e _ _ h⟩)
  · exact .inr h
theorem for_zipD {K : PySem.W.Frag} {a b : Addr} {xs ys : List V} {g : TG} {tb : TS} {nx : L2.St → Hp → Prop} {rt : VK} {σ : L2.St} {H : Hp} (hl : xs.length = ys.length) (Pv : Nat → L2.St → Hp → Prop) (h0 : Pv 0 σ H) (hq : ∀ i σ H, Pv i σ H → SqT K H a xs ∧ SqT K H b ys)
    (hs : ∀ (i : Nat) (x y : V) (T : Addr) (σ : L2.St) (H : Hp), xs[i]? = some x → ys[i]? = some y → Pv i σ H → H T = none → g (.ref T) σ (upd H T (.tup [x, y])) fun σ2 H2 => tb { nx := Pv (i + 1), rt := rt, bk := nx, ct := Pv (i + 1) } σ2 H2) (hd : ∀ σ H, Pv xs.length σ H → nx σ H) :
    ∃ W : Nat → Nat → L2.St → Hp → Prop, (∃ m, W 0 m σ H) ∧ ∀ i m σ H, W i m σ H → ((RZ.ItzT K a b).stop i H ∧ nx σ H) ∨ ((RZ.ItzT K a b).go i H ∧ ∃ N : L2.St → Hp → Prop, (∀ σ' H', N σ' H' → ∃ m', m' < m ∧ W (i + 1) m' σ' H') ∧
      ∀ x H', (RZ.ItzT K a b).yld i H x H' → g x σ H' fun σ2 H2 => tb { nx := N, rt := rt, bk := nx, ct := N } σ2 H2) := RZ.for_zipT (D := { nx := nx, rt := rt }) hl Pv h0 hq hs hd
/-! ### a comprehension over a range, whose items are drawn -/
theorem lc_anyR {n j : Nat} {te : TE} {σ : L2.St} {H1 : Hp} {D : Addr} {Qd : Hp → Prop} (φ : V → Prop) (hD : H1 D = none) (hn : n ≤ 100000)
    (hs : ∀ i H Q, i < n → Same H1 H → (∀ y H', φ y → Same H H' → Q y H') → te ((σ.set j none).set j (some (.int i))) H Q) (hd : ∀ xs H, xs.length = n → (∀ x ∈ xs, φ x) → Same H1 H → H D = some (.lst xs) → Qd H) :
    ∃ W : Nat → Nat → Hp → Prop, (∃ m, W 0 m (upd H1 D (.lst []))) ∧ ∀ i m H, W i m H →
      ((Itr 0 n).stop i H ∧ Qd H) ∨ ((Itr 0 n).go i H ∧ ∃ Nx : Hp → Prop, (∀ H', Nx H' → ∃ m', m' < m ∧ W (i + 1) m' H') ∧ ∀ x H', (Itr 0 n).yld i H x H' → gName j x (wipe σ [j]) H' fun σ2 H2 => wipe σ2 [j] = wipe σ [j] ∧ tYes σ2 H2 fun b H3 =>
        if b = true then te σ2 H3 fun y H4 => ∃ acc, H4 D = some (.lst acc) ∧ acc.length < sizeLine ∧ Nx (upd H4 D (.lst (acc ++ [y]))) else Nx H3) := by
  refine lc_range (fun i H => Same H1 H ∧ ∃ xs : List V, xs.length = i ∧ (∀ x ∈ xs, φ x) ∧ H D = some (.lst xs)) ⟨Same.new hD, [], rfl, (fun _ z => nomatch z), upd_same⟩ (fun i H hi h => ?_) (fun H h => by obtain ⟨s, xs, hl, hx, hk⟩ := h; exact hd xs H hl hx s hk)
  rw [Int.zero_add]
  obtain ⟨s, xs, hl, hx, hk⟩ := h
  refine ⟨?_, ?_⟩
  · show (((σ.set j none).set j (some (V.int i))).set j none) = σ.set j none
    rw [List.set_set, List.set_set]
  · simp only [tYes, if_true]
    refine hs i H _ hi s fun y H' hy s' => ?_
    refine ⟨_, s' _ _ hk, ?_, fun b o e => ?_, xs ++ [y], ?_, fun x hx' => ?_, upd_same⟩
    · exact small64' (by omega)
    · have nb : b ≠ D := fun z => by rw [z, hD] at e; cases e
      rw [upd_ne nb]; exact s' _ _ (s _ _ e)
    · rw [List.length_append, hl]; rfl
    · rcases List.mem_append.mp hx' with z | z
      · exact hx x z
      · rw [List.mem_singleton] at z; rw [z]; exact hy
theorem ints_of {ψ : Int → Prop} : ∀ {xs : List V}, (∀ x ∈ xs, ∃ n, x = .int n ∧ ψ n) → ∃ ns : List Int, xs = ns.map V.int ∧ ∀ n ∈ ns, ψ n
  | [], _ => ⟨[], rfl, fun _ z => nomatch z⟩
  | x :: r, h => by
    obtain ⟨n, rfl, hn⟩ := h x (List.mem_cons_self ..)
    obtain ⟨ns, rfl, hns⟩ := ints_of fun y hy => h y (List.mem_cons_of_mem _ hy)
    refine ⟨n :: ns, rfl, fun m hm => ?_⟩
    rcases List.mem_cons.mp hm with e | hm
    · rw [e]; exact hn
    · exact hns m hm
theorem strs_of {ψ : Str → Prop} : ∀ {xs : List V}, (∀ x ∈ xs, ∃ z, x = .str z ∧ ψ z) → ∃ zs : List Str, xs = zs.map V.str ∧ ∀ z ∈ zs, ψ z
  | [], _ => ⟨[], rfl, fun _ z => nomatch z⟩
  | x :: r, h => by
    obtain ⟨n, rfl, hn⟩ := h x (List.mem_cons_self ..)
    obtain ⟨ns, rfl, hns⟩ := strs_of fun y hy => h y (List.mem_cons_of_mem _ hy)
    refine ⟨n :: ns, rfl, fun m hm => ?_⟩
    rcases List.mem_cons.mp hm with e | hm
    · rw [e]; exact hn
    · exact hns m hm

/-! ### zip of four lists -/
/-- a tuple of four -/
abbrev Four (h : Heap) (T : Addr) (a b c d : Value) : Prop := h.get? T = some { cls := .type "tuple", data := .seq #[a, b, c, d] }
section
variable {prog : Program} {w : World} {A : Around} {E : Value → Shared → Prop} {s : Shared}
theorem four_upd {T : Addr} {a b c d x : Value} {k : Nat} {Q : Unit → Shared → Prop} (hT : Four s.heap T a b c d)
    (h : ∀ h', h'.get? T = some { cls := .type "tuple", data := .seq ((#[a, b, c, d] : Array Value).setIfInBounds k x) } → Heap.SameBut T s.heap h' → Q () { s with heap := h' }) :
    wpAny (model prog w) A (updateSeq T (·.setIfInBounds k x)) Q E s :=
  wpAny_updateSeq hT rfl (h _ (by rw [Heap.get?_update_self _ hT rfl]; simp [Obj.mapSeq]) (Heap.SameBut.update ..))
/-- what a turn leaves: all but the objects of the zip at n (its four iterators, the tuple that it hands out, itself) -/
def Kept4 (n : Nat) (h h' : Heap) : Prop := ∀ c o, c < n ∨ c = n + 4 ∨ n + 6 < c → h.get? c = some o → h'.get? c = some o
theorem z4_item {n l1 l2 l3 l4 k : Nat} {X1 X2 X3 X4 : Array Value} {x1 x2 x3 x4 a b c d : Value} {Q : Value → Shared → Prop} (b1 : l1 < n) (b2 : l2 < n) (b3 : l3 < n) (b4 : l4 < n)
    (hz : IsZip s.heap (n + 6) (n + 4) (n + 5) .none) (hti : Four s.heap (n + 4) (.ref n) (.ref (n + 1)) (.ref (n + 2)) (.ref (n + 3))) (hto : Four s.heap (n + 5) a b c d)
    (i1 : s.heap.IsListIter n l1 k) (i2 : s.heap.IsListIter (n + 1) l2 k) (i3 : s.heap.IsListIter (n + 2) l3 k) (i4 : s.heap.IsListIter (n + 3) l4 k)
    (L1 : s.heap.IsList l1 X1) (L2 : s.heap.IsList l2 X2) (L3 : s.heap.IsList l3 X3) (L4 : s.heap.IsList l4 X4) (e1 : X1[k]? = some x1) (e2 : X2[k]? = some x2) (e3 : X3[k]? = some x3) (e4 : X4[k]? = some x4)
    (hQ : ∀ h', IsZip h' (n + 6) (n + 4) (n + 5) (rawInt s.heap.objs.size) → Four h' (n + 5) x1 x2 x3 x4 → h'.IsListIter n l1 (k + 1) → h'.IsListIter (n + 1) l2 (k + 1) → h'.IsListIter (n + 2) l3 (k + 1) → h'.IsListIter (n + 3) l4 (k + 1) →
      Four h' s.heap.objs.size x1 x2 x3 x4 → h'.objs.size = s.heap.objs.size + 1 → Kept4 n s.heap h' → Q (.ref s.heap.objs.size) { s with heap := h' }) :
    wpAny (model prog w) A (Builtin.«zip.__next__» ⟨[.ref (n + 6)], []⟩) (fun fin s' => ∃ v, fin = .done (.ret v) ∧ Q v s') E s := by
  show wpAny _ _ (field (.ref (n + 6)) 2 >>= _) _ _ _
  refine wpAny_bind (wpAny_field hz rfl (x := .bool false) rfl ?_)
  show wpAny _ _ (field (.ref (n + 6)) 3 >>= _) _ _ _
  refine wpAny_bind (wpAny_field hz rfl (x := .ref (n + 4)) rfl ?_)
  refine wpAny_bind (wpAny_seqItems hti rfl ?_)
  show wpAny _ _ (Builtin.SmallTypes.ownedTupleIsFree (.ref (n + 6)) >>= _) _ _ _
  refine wpAny_bind ?_
  unfold Builtin.SmallTypes.ownedTupleIsFree
  refine wpAny_bind (wpAny_field hz rfl (x := .none) rfl (wpAny_pure ?_))
  simp only [if_true]
  refine wpAny_bind (wpAny_rule ?_)
  refine wpAny_bind (wpAny_field hz rfl (x := .ref (n + 5)) rfl ?_)
  refine wpAny_bind (wpAny_setField_rec hz (by simp) fun g0 z0 s0 => ?_)
  replace z0 : IsZip g0 (n + 6) (n + 4) (n + 5) .ellipsis := z0
  have k0 : ∀ c o, c ≠ n + 6 → s.heap.get? c = some o → g0.get? c = some o := fun c o h e => s0.extBut _ _ h e
  refine wpAny_bind ?_
  simp only [List.zipIdx_cons, List.zipIdx_nil, List.forIn_cons, List.forIn_nil]
  -- the first
  refine wpAny_bind (wpAny_bind (wpAny_onRaise ?_))
  show wpAny _ _ (Builtin.SmallTypes.nextOf (.ref n) >>= _) _ _ _
  refine wpAny_bind (wpAny_nextOf_list_item (i1.at fun o e => k0 _ o (by show (_ : Nat) ≠ _; omega) e) (L1.at fun o e => k0 _ o (by show (_ : Nat) ≠ _; omega) e) e1 fun g1 j1 s1 => wpAny_pure ?_)
  have k1 : ∀ c o, c ≠ n + 6 → c ≠ n → s.heap.get? c = some o → g1.get? c = some o := fun c o h h2 e => s1.extBut _ _ h2 (k0 c o h e)
  refine wpAny_bind (wpAny_seqItems (k1 _ _ (by omega) (by omega) hto) rfl ?_)
  refine wpAny_bind (four_upd (k1 _ _ (by omega) (by omega) hto) fun g2 t2 s2 => ?_)
  replace t2 : Four g2 (n + 5) x1 b c d := t2
  have k2 : ∀ c o, c ≠ n + 6 → c ≠ n → c ≠ n + 5 → s.heap.get? c = some o → g2.get? c = some o := fun c o h h2 h3 e => s2.extBut _ _ h3 (k1 c o h h2 e)
  refine wpAny_bind (wpAny_letGo (wpAny_pure ?_))
  -- the second
  refine wpAny_bind (wpAny_bind (wpAny_onRaise ?_))
  show wpAny _ _ (Builtin.SmallTypes.nextOf (.ref (n + 1)) >>= _) _ _ _
  refine wpAny_bind (wpAny_nextOf_list_item (i2.at fun o e => k2 _ o (by show (_ : Nat) ≠ _; omega) (by show (_ : Nat) ≠ _; omega) (by show (_ : Nat) ≠ _; omega) e) (L2.at fun o e => k2 _ o (by show (_ : Nat) ≠ _; omega) (by show (_ : Nat) ≠ _; omega) (by show (_ : Nat) ≠ _; omega) e) e2 fun g3 j3 s3 => wpAny_pure ?_)
  have t3 : Four g3 (n + 5) x1 b c d := s3.extBut _ _ (by show (_ : Nat) ≠ _; omega) t2
  refine wpAny_bind (wpAny_seqItems t3 rfl ?_)
  refine wpAny_bind (four_upd t3 fun g4 t4 s4 => ?_)
  replace t4 : Four g4 (n + 5) x1 x2 c d := t4
  have k4 : ∀ c o, c ≠ n + 6 → c ≠ n → c ≠ n + 5 → c ≠ n + 1 → s.heap.get? c = some o → g4.get? c = some o := fun c o h h2 h3 h4 e => s4.extBut _ _ h3 (s3.extBut _ _ h4 (k2 c o h h2 h3 e))
  refine wpAny_bind (wpAny_letGo (wpAny_pure ?_))
  -- the third
  refine wpAny_bind (wpAny_bind (wpAny_onRaise ?_))
  show wpAny _ _ (Builtin.SmallTypes.nextOf (.ref (n + 2)) >>= _) _ _ _
  refine wpAny_bind (wpAny_nextOf_list_item (i3.at fun o e => k4 _ o (by show (_ : Nat) ≠ _; omega) (by show (_ : Nat) ≠ _; omega) (by show (_ : Nat) ≠ _; omega) (by show (_ : Nat) ≠ _; omega) e) (L3.at fun o e => k4 _ o (by show (_ : Nat) ≠ _; omega) (by show (_ : Nat) ≠ _; omega) (by show (_ : Nat) ≠ _; omega) (by show (_ : Nat) ≠ _; omega) e) e3 fun g5 j5 s5 => wpAny_pure ?_)
  have t5 : Four g5 (n + 5) x1 x2 c d := s5.extBut _ _ (by show (_ : Nat) ≠ _; omega) t4
  refine wpAny_bind (wpAny_seqItems t5 rfl ?_)
  refine wpAny_bind (four_upd t5 fun g6 t6 s6 => ?_)
  replace t6 : Four g6 (n + 5) x1 x2 x3 d := t6
  have k6 : ∀ c o, c ≠ n + 6 → c ≠ n → c ≠ n + 5 → c ≠ n + 1 → c ≠ n + 2 → s.heap.get? c = some o → g6.get? c = some o := fun c o h h2 h3 h4 h5 e => s6.extBut _ _ h3 (s5.extBut _ _ h5 (k4 c o h h2 h3 h4 e))
  refine wpAny_bind (wpAny_letGo (wpAny_pure ?_))
  -- the fourth
  refine wpAny_bind (wpAny_bind (wpAny_onRaise ?_))
  show wpAny _ _ (Builtin.SmallTypes.nextOf (.ref (n + 3)) >>= _) _ _ _
  refine wpAny_bind (wpAny_nextOf_list_item (i4.at fun o e => k6 _ o (by show (_ : Nat) ≠ _; omega) (by show (_ : Nat) ≠ _; omega) (by show (_ : Nat) ≠ _; omega) (by show (_ : Nat) ≠ _; omega) (by show (_ : Nat) ≠ _; omega) e) (L4.at fun o e => k6 _ o (by show (_ : Nat) ≠ _; omega) (by show (_ : Nat) ≠ _; omega) (by show (_ : Nat) ≠ _; omega) (by show (_ : Nat) ≠ _; omega) (by show (_ : Nat) ≠ _; omega) e) e4 fun g7 j7 s7 => wpAny_pure ?_)
  have t7 : Four g7 (n + 5) x1 x2 x3 d := s7.extBut _ _ (by show (_ : Nat) ≠ _; omega) t6
  refine wpAny_bind (wpAny_seqItems t7 rfl ?_)
  refine wpAny_bind (four_upd t7 fun g8 t8 s8 => ?_)
  replace t8 : Four g8 (n + 5) x1 x2 x3 x4 := t8
  have k8 : ∀ c o, c ≠ n + 6 → c ≠ n → c ≠ n + 5 → c ≠ n + 1 → c ≠ n + 2 → c ≠ n + 3 → s.heap.get? c = some o → g8.get? c = some o := fun c o h h2 h3 h4 h5 h6 e => s8.extBut _ _ h3 (s7.extBut _ _ h6 (k6 c o h h2 h3 h4 h5 e))
  refine wpAny_bind (wpAny_letGo (wpAny_pure (wpAny_pure ?_)))
  refine wpAny_bind (wpAny_seqItems t8 rfl ?_)
  refine wpAny_bind (wpAny_newTuple ?_)
  have hsz : g8.objs.size = s.heap.objs.size := by rw [s8.1, s7.1, s6.1, s5.1, s4.1, s3.1, s2.1, s1.1, s0.1]
  have z8 : IsZip g8 (n + 6) (n + 4) (n + 5) .ellipsis := by
    refine s8.extBut _ _ (by show (_ : Nat) ≠ _; omega) (s7.extBut _ _ (by show (_ : Nat) ≠ _; omega) (s6.extBut _ _ (by show (_ : Nat) ≠ _; omega) (s5.extBut _ _ (by show (_ : Nat) ≠ _; omega) (s4.extBut _ _ (by show (_ : Nat) ≠ _; omega) (s3.extBut _ _ (by show (_ : Nat) ≠ _; omega) (s2.extBut _ _ (by show (_ : Nat) ≠ _; omega) (s1.extBut _ _ (by show (_ : Nat) ≠ _; omega) z0)))))))
  have m1 : g8.IsListIter n l1 (k + 1) := j1.at fun o e => s8.extBut _ _ (by show (_ : Nat) ≠ _; omega) (s7.extBut _ _ (by show (_ : Nat) ≠ _; omega) (s6.extBut _ _ (by show (_ : Nat) ≠ _; omega) (s5.extBut _ _ (by show (_ : Nat) ≠ _; omega) (s4.extBut _ _ (by show (_ : Nat) ≠ _; omega) (s3.extBut _ _ (by show (_ : Nat) ≠ _; omega) (s2.extBut _ _ (by show (_ : Nat) ≠ _; omega) e))))))
  have m2 : g8.IsListIter (n + 1) l2 (k + 1) := j3.at fun o e => s8.extBut _ _ (by show (_ : Nat) ≠ _; omega) (s7.extBut _ _ (by show (_ : Nat) ≠ _; omega) (s6.extBut _ _ (by show (_ : Nat) ≠ _; omega) (s5.extBut _ _ (by show (_ : Nat) ≠ _; omega) (s4.extBut _ _ (by show (_ : Nat) ≠ _; omega) e))))
  have m3 : g8.IsListIter (n + 2) l3 (k + 1) := j5.at fun o e => s8.extBut _ _ (by show (_ : Nat) ≠ _; omega) (s7.extBut _ _ (by show (_ : Nat) ≠ _; omega) (s6.extBut _ _ (by show (_ : Nat) ≠ _; omega) e))
  have m4 : g8.IsListIter (n + 3) l4 (k + 1) := j7.at fun o e => s8.extBut _ _ (by show (_ : Nat) ≠ _; omega) e
  have lz : n + 6 < g8.objs.size := Heap.lt_size z8
  show wpAny _ _ (Builtin.SmallTypes.ownedTupleHandOut (.ref (n + 6)) (.ref g8.objs.size) >>= _) _ _ _
  refine wpAny_bind ?_
  unfold Builtin.SmallTypes.ownedTupleHandOut
  have z9 : IsZip (g8.push { cls := .type "tuple", data := .seq #[x1, x2, x3, x4] }) (n + 6) (n + 4) (n + 5) .ellipsis := Heap.get?_push_of_some _ z8
  refine wpAny_bind (wpAny_setField_rec z9 (by simp) fun ga za sa => ?_)
  replace za : IsZip ga (n + 6) (n + 4) (n + 5) (rawInt g8.objs.size) := za
  refine wpAny_setField_rec za (by simp) fun gb zb sb => ?_
  replace zb : IsZip gb (n + 6) (n + 4) (n + 5) (rawInt g8.objs.size) := zb
  have up : ∀ c o, c ≠ n + 6 → g8.get? c = some o → gb.get? c = some o := fun c o h e => sb.extBut _ _ h (sa.extBut _ _ h (Heap.get?_push_of_some _ e))
  have tb : Four gb g8.objs.size x1 x2 x3 x4 := sb.extBut _ _ (by show (_ : Nat) ≠ _; omega) (sa.extBut _ _ (by show (_ : Nat) ≠ _; omega) (Heap.get?_push_size _ rfl))
  have hb : gb.objs.size = g8.objs.size + 1 := by rw [sb.1, sa.1, Heap.size_push]
  rw [hsz] at zb tb hb
  refine wpAny_pure ⟨_, rfl, ?_⟩
  show Q (.ref g8.objs.size) _
  rw [hsz]
  refine hQ gb zb (up _ _ (by show (_ : Nat) ≠ _; omega) t8) (m1.at fun o e => up _ o (by show (_ : Nat) ≠ _; omega) e) (m2.at fun o e => up _ o (by show (_ : Nat) ≠ _; omega) e) (m3.at fun o e => up _ o (by show (_ : Nat) ≠ _; omega) e) (m4.at fun o e => up _ o (by show (_ : Nat) ≠ _; omega) e) tb hb fun c o h e => ?_
  exact up c o (by show (_ : Nat) ≠ _; omega) (k8 c o (by show (_ : Nat) ≠ _; omega) (by show (_ : Nat) ≠ _; omega) (by show (_ : Nat) ≠ _; omega) (by show (_ : Nat) ≠ _; omega) (by show (_ : Nat) ≠ _; omega) (by show (_ : Nat) ≠ _; omega) e)
theorem z4_end {n l1 l2 l3 l4 k : Nat} {X1 : Array Value} {a b c d : Value} {Q : Fin → Shared → Prop} (hh : A.handled = none) (b1 : l1 < n)
    (hz : IsZip s.heap (n + 6) (n + 4) (n + 5) .none) (hti : Four s.heap (n + 4) (.ref n) (.ref (n + 1)) (.ref (n + 2)) (.ref (n + 3)))
    (i1 : s.heap.IsListIter n l1 k) (L1 : s.heap.IsList l1 X1) (e1 : X1[k]? = none)
    (hE : ∀ h' e, Kept4 n s.heap h' → (∃ o, h'.get? e = some o ∧ o.cls = .type "StopIteration") → E (.ref e) { s with heap := h' }) :
    wpAny (model prog w) A (Builtin.«zip.__next__» ⟨[.ref (n + 6)], []⟩) Q E s := by
  show wpAny _ _ (field (.ref (n + 6)) 2 >>= _) _ _ _
  refine wpAny_bind (wpAny_field hz rfl (x := .bool false) rfl ?_)
  show wpAny _ _ (field (.ref (n + 6)) 3 >>= _) _ _ _
  refine wpAny_bind (wpAny_field hz rfl (x := .ref (n + 4)) rfl ?_)
  refine wpAny_bind (wpAny_seqItems hti rfl ?_)
  show wpAny _ _ (Builtin.SmallTypes.ownedTupleIsFree (.ref (n + 6)) >>= _) _ _ _
  refine wpAny_bind ?_
  unfold Builtin.SmallTypes.ownedTupleIsFree
  refine wpAny_bind (wpAny_field hz rfl (x := .none) rfl (wpAny_pure ?_))
  simp only [if_true]
  refine wpAny_bind (wpAny_rule ?_)
  refine wpAny_bind (wpAny_field hz rfl (x := .ref (n + 5)) rfl ?_)
  refine wpAny_bind (wpAny_setField_rec hz (by simp) fun g0 z0 s0 => ?_)
  replace z0 : IsZip g0 (n + 6) (n + 4) (n + 5) .ellipsis := z0
  have k0 : ∀ c o, c ≠ n + 6 → s.heap.get? c = some o → g0.get? c = some o := fun c o h e => s0.extBut _ _ h e
  refine wpAny_bind ?_
  simp only [List.zipIdx_cons, List.zipIdx_nil, List.forIn_cons, List.forIn_nil]
  refine wpAny_bind (wpAny_bind (wpAny_onRaise ?_))
  show wpAny _ _ (Builtin.SmallTypes.nextOf (.ref n) >>= _) _ _ _
  refine wpAny_bind (wpAny_nextOf_list_end hh (i1.at fun o e => k0 _ o (by show (_ : Nat) ≠ _; omega) e) (L1.at fun o e => k0 _ o (by show (_ : Nat) ≠ _; omega) e) e1 fun g1 e s1 he => ?_)
  obtain ⟨oe, hoe, hce⟩ := he
  have z1 : IsZip g1 (n + 6) (n + 4) (n + 5) .ellipsis := s1 _ _ (by show (_ : Nat) ≠ _; omega) z0
  have hez : e ≠ n + 6 := fun x => by subst x; rw [z1] at hoe; cases hoe; simp at hce
  refine wpAny_setField_rec z1 (by simp) fun g2 _ s2 => hE g2 e (fun c o h x => s2.extBut _ _ (by show (_ : Nat) ≠ _; omega) (s1 _ _ (by show (_ : Nat) ≠ _; omega) (k0 _ _ (by omega) x))) ⟨oe, s2.extBut _ _ hez hoe, hce⟩
theorem z4_next {n l1 l2 l3 l4 k : Nat} {X1 X2 X3 X4 : Array Value} {x1 x2 x3 x4 a b c d : Value} {Q : Option Value → Shared → Prop} (b1 : l1 < n) (b2 : l2 < n) (b3 : l3 < n) (b4 : l4 < n)
    (hz : IsZip s.heap (n + 6) (n + 4) (n + 5) .none) (hti : Four s.heap (n + 4) (.ref n) (.ref (n + 1)) (.ref (n + 2)) (.ref (n + 3))) (hto : Four s.heap (n + 5) a b c d)
    (i1 : s.heap.IsListIter n l1 k) (i2 : s.heap.IsListIter (n + 1) l2 k) (i3 : s.heap.IsListIter (n + 2) l3 k) (i4 : s.heap.IsListIter (n + 3) l4 k)
    (L1 : s.heap.IsList l1 X1) (L2 : s.heap.IsList l2 X2) (L3 : s.heap.IsList l3 X3) (L4 : s.heap.IsList l4 X4) (e1 : X1[k]? = some x1) (e2 : X2[k]? = some x2) (e3 : X3[k]? = some x3) (e4 : X4[k]? = some x4)
    (hQ : ∀ h', IsZip h' (n + 6) (n + 4) (n + 5) (rawInt s.heap.objs.size) → Four h' (n + 5) x1 x2 x3 x4 → h'.IsListIter n l1 (k + 1) → h'.IsListIter (n + 1) l2 (k + 1) → h'.IsListIter (n + 2) l3 (k + 1) → h'.IsListIter (n + 3) l4 (k + 1) →
      Four h' s.heap.objs.size x1 x2 x3 x4 → h'.objs.size = s.heap.objs.size + 1 → Kept4 n s.heap h' → Q (some (.ref s.heap.objs.size)) { s with heap := h' }) :
    wpAny (model prog w) A (pyNext (.ref (n + 6))) Q E s := by
  have hT : s.TypeIs (.ref (n + 6)) "zip" := ⟨_, hz, rfl⟩
  unfold pyNext
  exact wpAny_bind (wpAny_attempt (wpAny_callSpecial?_slot (name := Str.ofString "__next__") hT F.slot_zip_next (wpAny_call_entry F.slot_zip_next hT F.entry_zip_next
    (z4_item b1 b2 b3 b4 hz hti hto i1 i2 i3 i4 L1 L2 L3 L4 e1 e2 e3 e4 fun h' q1 q2 q3 q4 q5 q6 q7 q8 q9 => wpAny_pure (hQ h' q1 q2 q3 q4 q5 q6 q7 q8 q9)) (F.args_zip_next_1 _))))
theorem z4_stop {n l1 k : Nat} {X1 : Array Value} {Q : Option Value → Shared → Prop} (hh : A.handled = none) (b1 : l1 < n)
    (hz : IsZip s.heap (n + 6) (n + 4) (n + 5) .none) (hti : Four s.heap (n + 4) (.ref n) (.ref (n + 1)) (.ref (n + 2)) (.ref (n + 3)))
    (i1 : s.heap.IsListIter n l1 k) (L1 : s.heap.IsList l1 X1) (e1 : X1[k]? = none)
    (hQ : ∀ h', Kept4 n s.heap h' → Q none { s with heap := h' }) : wpAny (model prog w) A (pyNext (.ref (n + 6))) Q E s := by
  have hT : s.TypeIs (.ref (n + 6)) "zip" := ⟨_, hz, rfl⟩
  unfold pyNext
  refine wpAny_bind (wpAny_attempt (wpAny_callSpecial?_slot (name := Str.ofString "__next__") hT F.slot_zip_next (wpAny_call_entry F.slot_zip_next hT F.entry_zip_next
    (z4_end (a := .none) (b := .none) (c := .none) (d := .none) (l2 := 0) (l3 := 0) (l4 := 0) hh b1 hz hti i1 L1 e1 fun h' e hk he => ?_) (F.args_zip_next_1 _))))
  obtain ⟨o, ho, hc⟩ := he
  refine wpAny_bind (wpAny_isInstance (T := "StopIteration") (b := true) ⟨o, ho, hc⟩ isSubtype_stop ?_)
  exact wpAny_pure (hQ _ hk)
end
theorem t4_call (a b c d : Value) : checkTypeCall "zip" ⟨[a, b, c, d], []⟩ = pure () := by kernel_rfl
theorem t4_new (a b c d : Value) : checkBuiltinCall "zip.__new__" ⟨[.type "zip", a, b, c, d], []⟩ = pure () := by kernel_rfl
theorem t4_init (o a b c d : Value) : argsOk "object.__init__" ⟨[o, a, b, c, d], []⟩ := by
  unfold argsOk; rw [signature?_of (id := "object.__init__") (n := ['_', '_', 't', 'i', 'n', 'i', '_', '_']) (o := ['t', 'c', 'e', 'j', 'b', 'o']) (by kernel_rfl) F.owner_object]; kernel_rfl
/-- the heaps on the way of zip(l1, l2, l3, l4) -/
abbrev zit (l : Addr) : Obj := { cls := .type "list_iterator", data := .fields #[.ref l, .int 0 0] }
abbrev zA (h : Heap) (l1 l2 l3 l4 : Addr) : Heap := (((h.push (zit l1)).push (zit l2)).push (zit l3)).push (zit l4)
abbrev zB (h : Heap) (l1 l2 l3 l4 : Addr) : Heap := (zA h l1 l2 l3 l4).push { cls := .type "tuple", data := .seq #[.ref h.objs.size, .ref (h.push (zit l1)).objs.size, .ref ((h.push (zit l1)).push (zit l2)).objs.size, .ref (((h.push (zit l1)).push (zit l2)).push (zit l3)).objs.size] }
abbrev zC (h : Heap) (l1 l2 l3 l4 : Addr) : Heap := (zB h l1 l2 l3 l4).push { cls := .type "tuple", data := .seq #[.none, .none, .none, .none] }
abbrev zD (h : Heap) (l1 l2 l3 l4 : Addr) : Heap := (zC h l1 l2 l3 l4).push { cls := .type "zip", data := .fields #[.none, .bool false, .bool false, .ref (zA h l1 l2 l3 l4).objs.size, .ref (zB h l1 l2 l3 l4).objs.size] }
theorem z4_new (l1 l2 l3 l4 : Addr) (X1 X2 X3 X4 : Array Value) :
    Meets (Builtin.«zip.__new__» ⟨[.type "zip", .ref l1, .ref l2, .ref l3, .ref l4], []⟩) (fun _ R s => s.heap.IsList l1 X1 ∧ s.heap.IsList l2 X2 ∧ s.heap.IsList l3 X3 ∧ s.heap.IsList l4 X4 ∧
      R (.ok (.ret (.ref (zC s.heap l1 l2 l3 l4).objs.size))) { s with heap := zD s.heap l1 l2 l3 l4 }) :=
  .of_wp fun prog w A R s h => by
    obtain ⟨hp, g, d, tk, os⟩ := s; obtain ⟨L1, L2, L3, L4, h⟩ := h
    have hsub := sub_zip
    have M1 : Heap.IsList (Shared.heap ⟨hp, g, d, tk, os⟩) l1 X1 := L1
    have M2 : Heap.IsList (Shared.heap ⟨hp.push (zit l1), g, d, tk, os⟩) l2 X2 := Heap.IsList.push L2 _
    have M3 : Heap.IsList (Shared.heap ⟨(hp.push (zit l1)).push (zit l2), g, d, tk, os⟩) l3 X3 := Heap.IsList.push (Heap.IsList.push L3 _) _
    have M4 : Heap.IsList (Shared.heap ⟨((hp.push (zit l1)).push (zit l2)).push (zit l3), g, d, tk, os⟩) l4 X4 := Heap.IsList.push (Heap.IsList.push (Heap.IsList.push L4 _) _) _
    wp_walk using wpAny_pyIter_list M1, wpAny_pyIter_list M2, wpAny_pyIter_list M3, wpAny_pyIter_list M4
    exact ⟨_, rfl, h⟩
section
variable {prog : Program} {w : World} {A : Around} {E : Value → Shared → Prop} {s : Shared}
theorem z4_make {l1 l2 l3 l4 : Addr} {X1 X2 X3 X4 : Array Value} {Q : Value → Shared → Prop} (L1 : s.heap.IsList l1 X1) (L2 : s.heap.IsList l2 X2) (L3 : s.heap.IsList l3 X3) (L4 : s.heap.IsList l4 X4)
    (h : ∀ (n : Nat) (h' : Heap), n = s.heap.objs.size → IsZip h' (n + 6) (n + 4) (n + 5) .none → Four h' (n + 4) (.ref n) (.ref (n + 1)) (.ref (n + 2)) (.ref (n + 3)) → Four h' (n + 5) .none .none .none .none →
      h'.IsListIter n l1 0 → h'.IsListIter (n + 1) l2 0 → h'.IsListIter (n + 2) l3 0 → h'.IsListIter (n + 3) l4 0 → (∀ c o, s.heap.get? c = some o → h'.get? c = some o) → Q (.ref (n + 6)) { s with heap := h' }) :
    wpAny (model prog w) A (call (.type "zip") [.ref l1, .ref l2, .ref l3, .ref l4]) Q E s := by
  refine callType_new F.called_zip (by decide) (t4_call _ _ _ _) (t4_new _ _ _ _) (fun obj => t4_init obj _ _ _ _) F.entry_zip_new (z4_new l1 l2 l3 l4 X1 X2 X3 X4) ⟨L1, L2, L3, L4, ?_⟩
  generalize en : s.heap.objs.size = n at h
  have y1 : (s.heap.push (zit l1)).objs.size = n + 1 := by rw [Heap.size_push, en]
  have y2 : ((s.heap.push (zit l1)).push (zit l2)).objs.size = n + 2 := by rw [Heap.size_push, y1]
  have y3 : (((s.heap.push (zit l1)).push (zit l2)).push (zit l3)).objs.size = n + 3 := by rw [Heap.size_push, y2]
  have y4 : (zA s.heap l1 l2 l3 l4).objs.size = n + 4 := by rw [Heap.size_push, y3]
  have y5 : (zB s.heap l1 l2 l3 l4).objs.size = n + 5 := by rw [Heap.size_push, y4]
  have y6 : (zC s.heap l1 l2 l3 l4).objs.size = n + 6 := by rw [Heap.size_push, y5]
  have g6 : (zD s.heap l1 l2 l3 l4).get? (zC s.heap l1 l2 l3 l4).objs.size = some _ := Heap.get?_push_size _ rfl
  have g5 : (zD s.heap l1 l2 l3 l4).get? (zB s.heap l1 l2 l3 l4).objs.size = some _ := Heap.get?_push_of_some _ (Heap.get?_push_size _ rfl)
  have g4 : (zD s.heap l1 l2 l3 l4).get? (zA s.heap l1 l2 l3 l4).objs.size = some _ := Heap.get?_push_of_some _ (Heap.get?_push_of_some _ (Heap.get?_push_size _ rfl))
  have g3 : (zD s.heap l1 l2 l3 l4).get? (((s.heap.push (zit l1)).push (zit l2)).push (zit l3)).objs.size = some _ := Heap.get?_push_of_some _ (Heap.get?_push_of_some _ (Heap.get?_push_of_some _ (Heap.get?_push_size _ rfl)))
  have g2 : (zD s.heap l1 l2 l3 l4).get? ((s.heap.push (zit l1)).push (zit l2)).objs.size = some _ := Heap.get?_push_of_some _ (Heap.get?_push_of_some _ (Heap.get?_push_of_some _ (Heap.get?_push_of_some _ (Heap.get?_push_size _ rfl))))
  have g1 : (zD s.heap l1 l2 l3 l4).get? (s.heap.push (zit l1)).objs.size = some _ := Heap.get?_push_of_some _ (Heap.get?_push_of_some _ (Heap.get?_push_of_some _ (Heap.get?_push_of_some _ (Heap.get?_push_of_some _ (Heap.get?_push_size _ rfl)))))
  have g0 : (zD s.heap l1 l2 l3 l4).get? s.heap.objs.size = some _ := Heap.get?_push_of_some _ (Heap.get?_push_of_some _ (Heap.get?_push_of_some _ (Heap.get?_push_of_some _ (Heap.get?_push_of_some _ (Heap.get?_push_of_some _ (Heap.get?_push_size _ rfl))))))
  show _ ∧ _
  rw [y6, y5, y4] at g6
  rw [y5] at g5
  rw [y4, en, y1, y2, y3] at g4
  rw [y3] at g3
  rw [y2] at g2
  rw [y1] at g1
  rw [en] at g0
  rw [y6]
  exact ⟨⟨_, g6, rfl⟩, h n _ rfl g6 g4 g5 ⟨_, g0, rfl, rfl⟩ ⟨_, g1, rfl, rfl⟩ ⟨_, g2, rfl, rfl⟩ ⟨_, g3, rfl, rfl⟩ fun c o x =>
    Heap.get?_push_of_some _ (Heap.get?_push_of_some _ (Heap.get?_push_of_some _ (Heap.get?_push_of_some _ (Heap.get?_push_of_some _ (Heap.get?_push_of_some _ (Heap.get?_push_of_some _ x))))))⟩
end
theorem out7 {q n : Nat} (h : q ∉ [n, n + 1, n + 2, n + 3, n + 4, n + 5, n + 6]) : q < n ∨ q = n + 4 ∨ n + 6 < q := by simp at h; omega
theorem in7 {q n : Nat} (h : q ∈ [n, n + 1, n + 2, n + 3, n + 4, n + 5, n + 6]) : n ≤ q ∧ q ≤ n + 6 := by simp at h; omega
/-- four lists of one length as they stand at each turn, the items in new tuples of four -/
def It4 (K : PySem.W.Frag) (a b c d : Addr) : It :=
  ⟨fun i H => ∃ (xs ys zs us : List V) (x y z u : V), SqL K H a xs ∧ SqL K H b ys ∧ SqL K H c zs ∧ SqL K H d us ∧ xs[i]? = some x ∧ ys[i]? = some y ∧ zs[i]? = some z ∧ us[i]? = some u,
    fun i H v H' => ∃ T x y z u, v = .ref T ∧ H T = none ∧ H' = upd H T (.tup [x, y, z, u]) ∧ (∀ l, SqL K H a l → l[i]? = some x) ∧ (∀ l, SqL K H b l → l[i]? = some y) ∧ (∀ l, SqL K H c l → l[i]? = some z) ∧ ∀ l, SqL K H d l → l[i]? = some u,
    fun i H => ∃ xs : List V, SqL K H a xs ∧ xs.length ≤ i⟩
theorem turn_z4 {P : Program} {w : World} {K : PySem.W.Frag} {elts : List Expr} {kk : Nat} {tpos : Pos} {a b c d n : Nat} (b1 : a < n) (b2 : b < n) (b3 : c < n) (b4 : d < n) :
    Turn P w K (.Tuple elts kk tpos) (It4 K a b c d) [n, n + 1, n + 2, n + 3, n + 4, n + 5, n + 6] (n + 6) (fun i h => IsZip h (n + 6) (n + 4) (n + 5) .none ∧ Four h (n + 4) (.ref n) (.ref (n + 1)) (.ref (n + 2)) (.ref (n + 3)) ∧ (∃ x y z u, Four h (n + 5) x y z u) ∧
      h.IsListIter n a i ∧ h.IsListIter (n + 1) b i ∧ h.IsListIter (n + 2) c i ∧ h.IsListIter (n + 3) d i) where
  mem := by simp
  obj := fun i h st q hq => by
    obtain ⟨hz, hTI, ⟨x, y, z, u, hTO⟩, ⟨o1, e1, _, d1⟩, ⟨o2, e2, _, d2⟩, ⟨o3, e3, _, d3⟩, ⟨o4, e4, _, d4⟩⟩ := st
    have e' : q = n ∨ q = n + 1 ∨ q = n + 2 ∨ q = n + 3 ∨ q = n + 4 ∨ q = n + 5 ∨ q = n + 6 := by simpa using hq
    rcases e' with r | r | r | r | r | r | r
    · rw [r]; exact ⟨o1, e1, fun v m => by rw [d1] at m; cases m⟩
    · rw [r]; exact ⟨o2, e2, fun v m => by rw [d2] at m; cases m⟩
    · rw [r]; exact ⟨o3, e3, fun v m => by rw [d3] at m; cases m⟩
    · rw [r]; exact ⟨o4, e4, fun v m => by rw [d4] at m; cases m⟩
    · rw [r]; exact ⟨_, hTI, fun v m => nomatch m⟩
    · rw [r]; exact ⟨_, hTO, fun v m => nomatch m⟩
    · rw [r]; exact ⟨_, hz, fun v m => nomatch m⟩
  keep := fun i h h' st k => by
    obtain ⟨hz, hTI, ⟨x, y, z, u, hTO⟩, j1, j2, j3, j4⟩ := st
    exact ⟨k _ (by simp) _ hz, k _ (by simp) _ hTI, ⟨x, y, z, u, k _ (by simp) _ hTO⟩, j1.at fun o q => k _ (by simp) o q, j2.at fun o q => k _ (by simp) o q, j3.at fun o q => k _ (by simp) o q, j4.at fun o q => k _ (by simp) o q⟩
  item := by
    intro X hP hw hK hc i pins s σ H E I hf st hg
    subst hP hw hK
    obtain ⟨hz, hTI, ⟨x0, y0, z0, u0, hTO⟩, j1, j2, j3, j4⟩ := st
    obtain ⟨xs, ys, zs, us, x, y, z, u, qx, qy, qz, qu, hx, hy, hzz, hu⟩ := hg
    obtain ⟨t1, r1, p1, _⟩ := I.list qx
    obtain ⟨t2, r2, p2, _⟩ := I.list qy
    obtain ⟨t3, r3, p3, _⟩ := I.list qz
    obtain ⟨t4, r4, p4, _⟩ := I.list qu
    obtain ⟨v1, w1, y1⟩ := r1.get hx
    obtain ⟨v2, w2, y2⟩ := r2.get hy
    obtain ⟨v3, w3, y3⟩ := r3.get hzz
    obtain ⟨v4, w4, y4⟩ := r4.get hu
    have hzl : n + 6 < s.heap.objs.size := Heap.lt_size hz
    refine z4_next b1 b2 b3 b4 hz hTI hTO j1 j2 j3 j4 p1.isList p2.isList p3.isList p4.isList (x1 := v1) (x2 := v2) (x3 := v3) (x4 := v4) (by simpa using w1) (by simpa using w2) (by simpa using w3) (by simpa using w4) fun h' z' TO' i1 i2 i3 i4 hT hsz hk => ?_
    refine ⟨_, rfl, wpAny_letOwnedTupleGo_zip (s := { s with heap := h' }) z' fun h'' z'' sb => ?_⟩
    have hT2 : h''.get? s.heap.objs.size = some { cls := .type "tuple", data := .seq #[v1, v2, v3, v4] } := (sb.2 _ (Nat.ne_of_gt hzl)).trans hT
    have new : ObjOk X.prog X.w (upd H s.heap.objs.size (.tup [x, y, z, u])) h'' s.heap.objs.size (.tup [x, y, z, u]) :=
      ⟨by show 4 ≤ sizeLine; decide, [v1, v2, v3, v4], .cons y1 (.cons y2 (.cons y3 (.cons y4 .nil))), ⟨_, hT2, rfl, _, rfl⟩⟩
    have I1 : Inv X pins σ (upd H s.heap.objs.size (.tup [x, y, z, u])) { s with heap := h'' } :=
      I.turnedNew (t' := s.toks) (ch := [n, n + 1, n + 2, n + 3, n + 4, n + 5, n + 6]) (fun q o hb m => (sb.2 q (fun m' => hb (by simp [m']))).trans (hk q o (out7 hb) m)) hf (Nat.le_refl _) new
    refine ⟨.ref s.heap.objs.size, _, I1, rfl, ⟨_, x, y, z, u, rfl, I.hok.fresh (Nat.le_refl _), rfl, fun l hl => by rw [I.list_inj hl qx]; exact hx, fun l hl => by rw [I.list_inj hl qy]; exact hy, fun l hl => by rw [I.list_inj hl qz]; exact hzz, fun l hl => by rw [I.list_inj hl qu]; exact hu⟩,
      ⟨z'', ?_, ⟨v1, v2, v3, v4, ?_⟩, ?_, ?_, ?_, ?_⟩, fun q hq => ?_⟩
    · exact (sb.2 _ (by show (_ : Nat) ≠ _; omega)).trans (hk _ _ (.inr (.inl rfl)) hTI)
    · exact (sb.2 _ (by show (_ : Nat) ≠ _; omega)).trans TO'
    · exact i1.at fun o m => (sb.2 _ (by show (_ : Nat) ≠ _; omega)).trans m
    · exact i2.at fun o m => (sb.2 _ (by show (_ : Nat) ≠ _; omega)).trans m
    · exact i3.at fun o m => (sb.2 _ (by show (_ : Nat) ≠ _; omega)).trans m
    · exact i4.at fun o m => (sb.2 _ (by show (_ : Nat) ≠ _; omega)).trans m
    · have hlt : q ≠ s.heap.objs.size := Nat.ne_of_lt (Nat.lt_of_le_of_lt (in7 hq).2 hzl)
      rw [upd_ne hlt]
      exact (hf q hq).1
  done := by
    intro X hP hw hK hc i pins s σ H E I hf st hg
    subst hP hw hK
    obtain ⟨hz, hTI, ⟨x0, y0, z0, u0, hTO⟩, j1, j2, j3, j4⟩ := st
    obtain ⟨xs, qx, hend⟩ := hg
    obtain ⟨t1, r1, p1, _⟩ := I.list qx
    have ll := r1.length
    have he : t1.toArray[i]? = none := by simp; omega
    exact z4_stop (I.ok.hd hc) b1 hz hTI j1 p1.isList he fun h' hk => ⟨rfl, I.turnedL (t' := s.toks) (ch := [n, n + 1, n + 2, n + 3, n + 4, n + 5, n + 6]) (fun q o hb m => hk q o (out7 hb) m) hf⟩
  self := fun A i s Q E st h => wpAny_pyIter_zip st.1 h
def iZip4 (K : PySem.W.Frag) (ta : TA) : TI := fun σ H R => ta σ H fun vs H1 => ∃ a b c d xs ys zs us, vs = [.ref a, .ref b, .ref c, .ref d] ∧ SqL K H1 a xs ∧ SqL K H1 b ys ∧ SqL K H1 c zs ∧ SqL K H1 d us ∧ R (It4 K a b c d) H1
theorem pi_zip4 {X : Cx} {e e2 e3 e4 : Expr} {ta : TA} {p pos tpos : Pos} {elts : List Expr} {kk : Nat} (hg : Gl X "zip") (hm : X.mg "zip" = none) (ha : PA X [e, e2, e3, e4] ta)
    (hs : starEach [e, e2, e3, e4] X.env = (false, eval e X.env) :: starEach [e2, e3, e4] X.env := by rfl) (hpl : (backTo pos (starEach [e2, e3, e4] X.env)).any (·.1) = false := by rfl) :
    PI X (.Tuple elts kk tpos) (.Call (.Name "zip" p) [e, e2, e3, e4] [] pos) (iZip4 X.K ta) := by
  refine ⟨fun pins s σ H R I h => ?_⟩
  refine Call_ (ld_blt I hg hm PyProof.Rows.boot_zip (PyProof.Rows.callWith_type1 (thn (ha.run pos pins s σ H _ I h) fun vs s1 ⟨vl, H1, I1, rl, q1⟩ => ?_) hs hpl))
  obtain ⟨a, b, c, d, xs, ys, zs, us, ex, qx, qy, qz, qu, q⟩ := q1
  subst ex
  cases rl with
  | cons ra rr =>
    cases rr with
    | cons rb rr =>
      cases rr with
      | cons rc rr =>
        cases rr with
        | cons rd rr =>
          cases rr
          cases ra
          cases rb
          cases rc
          cases rd
          obtain ⟨t1, r1, p1, _⟩ := I1.list qx
          obtain ⟨t2, r2, p2, _⟩ := I1.list qy
          obtain ⟨t3, r3, p3, _⟩ := I1.list qz
          obtain ⟨t4, r4, p4, _⟩ := I1.list qu
          refine z4_make p1.isList p2.isList p3.isList p4.isList fun n h' en hz hTI hTO i1 i2 i3 i4 hk => wpAny_pyIter_zip hz ?_
          have I2 : Inv X pins σ H1 { s1 with heap := h' } := I1.kept (t' := s1.toks) hk
          refine ⟨n + 6, [n, n + 1, n + 2, n + 3, n + 4, n + 5, n + 6], _, _, H1, rfl, I2, turn_z4 (by rw [en]; exact p1.lt) (by rw [en]; exact p2.lt) (by rw [en]; exact p3.lt) (by rw [en]; exact p4.lt), ⟨hz, hTI, ⟨_, _, _, _, hTO⟩, i1, i2, i3, i4⟩, fun q hq => ?_, q⟩
          have hle : s1.heap.objs.size ≤ q := by rw [← en]; exact (in7 hq).1
          exact I1.fpOk hle (I1.hok.fresh hle)
/-- a loop over zip of four lists of m items each -/
theorem for_zip4 {K : PySem.W.Frag} {a b c d : Addr} {xs ys zs us : List V} {m : Nat} {g : TG} {tb : TS} {nx : L2.St → Hp → Prop} {rt : VK} {σ : L2.St} {H : Hp} (l1 : xs.length = m) (l2 : ys.length = m) (l3 : zs.length = m) (l4 : us.length = m) (Pv : Nat → L2.St → Hp → Prop) (h0 : Pv 0 σ H)
    (hq : ∀ i σ H, Pv i σ H → SqL K H a xs ∧ SqL K H b ys ∧ SqL K H c zs ∧ SqL K H d us)
    (hs : ∀ (i : Nat) (T : Addr) (σ : L2.St) (H : Hp), i < m → Pv i σ H → H T = none → g (.ref T) σ (upd H T (.tup [xs.getD i .non, ys.getD i .non, zs.getD i .non, us.getD i .non])) fun σ2 H2 => tb { nx := Pv (i + 1), rt := rt, ct := Pv (i + 1), bk := nx } σ2 H2) (hd : ∀ σ H, Pv m σ H → nx σ H) :
    ∃ W : Nat → Nat → L2.St → Hp → Prop, (∃ m, W 0 m σ H) ∧ ∀ i m σ H, W i m σ H → ((It4 K a b c d).stop i H ∧ nx σ H) ∨ ((It4 K a b c d).go i H ∧ ∃ N : L2.St → Hp → Prop, (∀ σ' H', N σ' H' → ∃ m', m' < m ∧ W (i + 1) m' σ' H') ∧
      ∀ v H', (It4 K a b c d).yld i H v H' → g v σ H' fun σ2 H2 => tb { nx := N, rt := rt, ct := N, bk := nx } σ2 H2) := by
  refine ⟨fun i r σ H => r = m - i ∧ i ≤ m ∧ Pv i σ H, ⟨m, rfl, Nat.zero_le _, h0⟩, ?_⟩
  rintro i _ σ H ⟨rfl, hi, p⟩
  obtain ⟨qx, qy, qz, qu⟩ := hq i σ H p
  have gg : ∀ {l : List V}, l.length = m → i < m → l[i]? = some (l.getD i .non) := fun {l} e h => by
    rw [List.getElem?_eq_getElem (by omega), List.getD_eq_getElem?_getD, List.getElem?_eq_getElem (by omega)]; rfl
  by_cases hlt : i < m
  · refine .inr ⟨⟨xs, ys, zs, us, _, _, _, _, qx, qy, qz, qu, gg l1 hlt, gg l2 hlt, gg l3 hlt, gg l4 hlt⟩, Pv (i + 1), fun σ' H' p' => ⟨m - (i + 1), by omega, rfl, hlt, p'⟩, fun v H' y => ?_⟩
    obtain ⟨T, x', y', z', u', rfl, hT, rfl, f1, f2, f3, f4⟩ := y
    have e1 : x' = xs.getD i .non := Option.some.inj ((f1 xs qx).symm.trans (gg l1 hlt))
    have e2 : y' = ys.getD i .non := Option.some.inj ((f2 ys qy).symm.trans (gg l2 hlt))
    have e3 : z' = zs.getD i .non := Option.some.inj ((f3 zs qz).symm.trans (gg l3 hlt))
    have e4 : u' = us.getD i .non := Option.some.inj ((f4 us qu).symm.trans (gg l4 hlt))
    rw [e1, e2, e3, e4]
    exact hs i T σ H hlt p hT
  · have e : i = m := by omega
    subst e
    exact .inl ⟨⟨xs, qx, by omega⟩, hd σ H p⟩
/-! ### xs[k::4] -/
theorem pick4 {α : Type} (xs : List α) (lo m : Nat) (h4 : lo < 4) (hm : xs.length = 4 * m) : sliceRange (sliceBounds (some (lo : Int)) none (some 4) xs.length).1 (sliceBounds (some (lo : Int)) none (some 4) xs.length).2.1 (sliceBounds (some (lo : Int)) none (some 4) xs.length).2.2 = (List.range m).map fun i => lo + 4 * i := by
  have e : sliceBounds (some (lo : Int)) none (some 4) xs.length = (max 0 (min (lo : Int) xs.length), (xs.length : Int), 4) := by
    unfold sliceBounds
    have h1 : ¬ ((lo : Int) < 0) := by omega
    simp [h1]
  rw [e]
  unfold sliceRange
  simp only [gt_iff_lt, show ((0 : Int) < 4) = True from eq_true (by decide), if_true]
  have ec : (if max 0 (min (lo : Int) xs.length) < (xs.length : Int) then ((xs.length : Int) - max 0 (min (lo : Int) xs.length) + 4 - 1) / 4 else 0).toNat = m := by
    split <;> omega
  rw [ec]
  refine List.map_congr_left fun i hi => ?_
  have := List.mem_range.mp hi
  omega
def tPick4 (K : PySem.W.Frag) (lo : Nat) (te : TE) : TE := fun σ H Q => te σ H fun x H1 => ∃ a xs m, x = .ref a ∧ SqL K H1 a xs ∧ xs.length = 4 * m ∧ ∀ p, H1 p = none → Q (.ref p) (upd H1 p (.lst ((List.range m).map fun i => xs.getD (lo + 4 * i) .non)))
theorem vals_pick {xs : List V} {us : List Value} (r : Vals xs us) : ∀ ks : List Nat, (∀ k ∈ ks, k < xs.length) → Vals (ks.map fun k => xs.getD k .non) (ks.filterMap (us[·]?))
  | [], _ => .nil
  | k :: ks, h => by
    have hk := h k (List.mem_cons_self ..)
    have e : xs[k]? = some (xs.getD k .non) := by rw [List.getElem?_eq_getElem hk, List.getD_eq_getElem?_getD, List.getElem?_eq_getElem hk]; rfl
    obtain ⟨u, hu, ru⟩ := r.get e
    rw [List.map_cons, List.filterMap_cons, hu]
    exact .cons ru (vals_pick r ks fun j hj => h j (List.mem_cons_of_mem _ hj))
theorem pe_pick4 {X : Cx} {e : Expr} {te : TE} {lo : Nat} {k k2 : Nat} {p1 p2 p3 pos : Pos} (h4 : lo < 4) (he : PE X e te) : PE X (.Subscript e (.Slice (some (.Constant (.int (lo : Int)) k p1)) none (some (.Constant (.int 4) k2 p2)) p3) pos) (tPick4 X.K lo te) := by
  refine ⟨fun pins s σ H Q I h => ?_⟩
  refine Subscript_ (thn (he.run pins s σ H _ I h) fun v s1 ⟨x, H1, I1, r1, q1⟩ => ?_)
  obtain ⟨a, xs, m, ex, hx, hm, q⟩ := q1
  subst ex
  cases r1
  have hlo : PO X (some (.Constant (.int (lo : Int)) k p1)) (tPart (tC (.int (lo : Int)))) := po_some pe_int
  have hst : PO X (some (.Constant (.int 4) k2 p2)) (tPart (tC (.int 4))) := po_some pe_int
  refine wpAny_Slice (thn (hlo.run pins s1 σ H1 (fun o G => o = some (lo : Int) ∧ G = H1) I1 ⟨_, rfl, rfl, rfl⟩) fun vl s2 ⟨l, H2, I2, pl, el, e2⟩ => ?_)
  subst el e2
  refine thn (po_none.run pins s2 σ H2 (fun o G => o = none ∧ G = H2) I2 ⟨rfl, rfl⟩) fun vu s3 ⟨u, H3, I3, pu, eu, e3⟩ => ?_
  subst eu e3
  refine thn (hst.run pins s3 σ H3 (fun o G => o = some 4 ∧ G = H3) I3 ⟨4, rfl, rfl, rfl⟩) fun vs s4 ⟨o, H4, I4, ps, eo, e4⟩ => ?_
  subst eo e4
  have I5 : Inv X pins σ H4 { s4 with heap := s4.heap.push { cls := .type "slice", data := .fields #[vl, vu, vs] } } := I4.kept (t' := s4.toks) fun b ob q => Heap.get?_push_of_some _ q
  obtain ⟨its, r, ht, hz⟩ := I5.list hx
  have hlen := r.length
  have hti := ht.isList.typeIs
  refine tail_any (ops := [.ref a, .ref s4.heap.objs.size]) hti (PySem.slot_list_getitem.lookup) ?_ (by with_unfolding_all rfl)
  refine wpAny_getItem_list_slice ht.isList (Heap.IsSliceOf.new _ vl vu vs) pl pu ps (by decide) ?_ (by rw [List.size_toArray]; omega)
  have ep : slicePick its.toArray (some (lo : Int)) none (some 4) = (((List.range m).map fun i => lo + 4 * i).filterMap (its[·]?)).toArray := by
    unfold slicePick
    have e5 := pick4 its lo m h4 (by omega)
    rw [List.size_toArray, e5]
    simp
  rw [ep]
  have rv := vals_pick r ((List.range m).map fun i => lo + 4 * i) fun j hj => by
    obtain ⟨i, hi, rfl⟩ := List.mem_map.mp hj
    have := List.mem_range.mp hi
    omega
  rw [List.map_map] at rv
  have lz : ((List.range m).map fun i => xs.getD (lo + 4 * i) V.non).length ≤ sizeLine := by rw [List.length_map, List.length_range]; omega
  refine ⟨.ref _, _, I5.laid (t' := s4.toks) (o := .lst ((List.range m).map fun i => xs.getD (lo + 4 * i) V.non)) (fun b ob q => Heap.get?_push_of_some _ q) (Nat.le_refl _) ?_, rfl, q _ (I5.hok.fresh (Nat.le_refl _))⟩
  exact ⟨lz, _, 0, rv, Heap.get?_push_size _ rfl⟩

/-! ### bytes of words: what the defs compute -/
def wb : Int → Nat → List Int
  | _, 0 => []
  | n, k + 1 => n % 256 :: wb (n / 256) k
def bw : List Int → Int
  | [] => 0
  | b :: r => bw r * 256 + b
def Bys (xs : List Int) : Prop := ∀ x ∈ xs, 0 ≤ x ∧ x ≤ 255
def Lst (H : Hp) (Q : VK) (xs : List Int) : Prop := ∀ p H', Same H H' → H p = none → H' p = some (.lst (xs.map V.int)) → Q (.ref p) H'
theorem wb_len : ∀ (k : Nat) (n : Int), (wb n k).length = k
  | 0, _ => rfl
  | k + 1, n => congrArg (· + 1) (wb_len k (n / 256))
theorem wb_bys : ∀ (k : Nat) (n : Int), Bys (wb n k)
  | 0, _ => fun _ h => nomatch h
  | k + 1, n => fun x h => by
    rcases List.mem_cons.mp h with rfl | h
    · omega
    · exact wb_bys k _ x h
theorem wb_snoc : ∀ (k : Nat) (n : Int), wb n (k + 1) = wb n k ++ [n / 256 ^ k % 256]
  | 0, n => by show [n % 256] = [n / 1 % 256]; rw [Int.ediv_one]
  | k + 1, n => by
    show n % 256 :: wb (n / 256) (k + 1) = n % 256 :: (wb (n / 256) k ++ _)
    rw [wb_snoc k (n / 256), Int.ediv_ediv_of_nonneg (by decide), Int.pow_succ, Int.mul_comm]
theorem bw_wb : ∀ (k : Nat) (n : Int), ∃ q, bw (wb n k) - n = q * 256 ^ k
  | 0, n => ⟨-n, by show 0 - n = -n * 1; omega⟩
  | k + 1, n => by
    obtain ⟨q, h⟩ := bw_wb k (n / 256)
    refine ⟨q, ?_⟩
    show bw (wb (n / 256) k) * 256 + n % 256 - n = _
    have e : bw (wb (n / 256) k) = q * 256 ^ k + n / 256 := by omega
    rw [e, Int.pow_succ, ← Int.mul_assoc, Int.add_mul]
    generalize q * 256 ^ k * 256 = z
    omega
theorem bw_mod (k : Nat) (n : Int) : (bw (wb n k) - n) % 2 ^ (8 * k) = 0 := by
  obtain ⟨q, h⟩ := bw_wb k n
  rw [h, Int.pow_mul]
  exact Int.mul_emod_left _ _
theorem bw_drop {xs : List Int} {i : Nat} (h : i < xs.length) : bw (xs.drop (xs.length - i - 1)) = bw (xs.drop (xs.length - i)) * 256 + xs.getD (xs.length - 1 - i) 0 := by
  have hi : xs.length - i - 1 < xs.length := by omega
  rw [List.drop_eq_getElem_cons hi, show xs.length - i - 1 + 1 = xs.length - i by omega, List.getD_eq_getElem?_getD, show xs.length - 1 - i = xs.length - i - 1 by omega, List.getElem?_eq_getElem hi]
  rfl
theorem bw_lt : ∀ (xs : List Int), Bys xs → 0 ≤ bw xs ∧ bw xs < 2 ^ (8 * xs.length)
  | [], _ => ⟨Int.le_refl _, by decide⟩
  | b :: r, h => by
    obtain ⟨i1, i2⟩ := bw_lt r fun x hx => h x (List.mem_cons_of_mem _ hx)
    obtain ⟨h1, h2⟩ := h b (List.mem_cons_self ..)
    show 0 ≤ bw r * 256 + b ∧ bw r * 256 + b < 2 ^ (8 * (r.length + 1))
    rw [show 8 * (r.length + 1) = 8 * r.length + 8 by omega, Int.pow_add]
    generalize (2 : Int) ^ (8 * r.length) = z at i2 ⊢
    rw [show (2 : Int) ^ 8 = 256 from rfl]
    omega
set_option exponentiation.threshold 2000 in
theorem bw_small {xs : List Int} (h : Bys xs) (hl : xs.length ≤ 63) : (bw xs).natAbs < 2 ^ 1000 := by
  obtain ⟨h1, h2⟩ := bw_lt xs h
  have h3 : (2 : Int) ^ (8 * xs.length) ≤ 2 ^ 1000 := by
    have := Nat.pow_le_pow_right (show 0 < 2 by decide) (show 8 * xs.length ≤ 1000 by omega)
    have := Int.ofNat_le.mpr this
    rw [PySem.W.kbt_cast, PySem.W.kbt_cast] at this
    exact this
  have h4 : bw xs < ((2 ^ 1000 : Nat) : Int) := by rw [PySem.W.kbt_cast]; exact Int.lt_of_lt_of_le h2 h3
  omega
theorem Bys.drop {xs : List Int} (h : Bys xs) (k : Nat) : Bys (xs.drop k) := fun x hx => h x (List.mem_of_mem_drop hx)
theorem Bys.snoc {xs : List Int} {b : Int} (h : Bys xs) (h0 : 0 ≤ b) (h1 : b ≤ 255) : Bys (xs ++ [b]) := fun x hx => by
  rcases List.mem_append.mp hx with hx | hx
  · exact h x hx
  · rw [List.mem_singleton] at hx; omega
def sp_word_bytes (K : PySem.W.Frag) (cs : Cs) : Sp := fun vs H Q _ => ∃ (n : Int) (k : Nat), vs = [.int n, .int k] ∧ k ≤ 8 ∧ Lst H Q (wb n k)
def sp_bytes_word (K : PySem.W.Frag) (cs : Cs) : Sp := fun vs H Q _ => ∃ (a : Addr) (xs : List Int), vs = [.ref a] ∧ (SqL K H a (xs.map V.int) ∨ SqT K H a (xs.map V.int)) ∧ Bys xs ∧ xs.length ≤ 63 ∧ ∀ H', Same H H' → Q (.int (bw xs)) H'
section
variable {P : Program} {w : World} {K : PySem.W.Frag} {mg : Str → Option Value} {base : Heap} {cs : Cs}
theorem c_word_bytes (D : Def K mg "word_bytes" s_word_bytes ["number", "count"]) (T : Tp w K mg cs)  : Cal P w K mg base CX0 1 "word_bytes" (sp_word_bytes K cs) := by
  refine D.ok sc_word_bytes (fun vs H Q E h => ?_) (fun f cdv A outer s H vs Q E hr h => ?_)
  · obtain ⟨n, k, rfl, _⟩ := h; rfl
  · obtain ⟨n, k, rfl, hk, q⟩ := h
    refine ⟨_, (pss_cons (ps_set (i := 2) sc_word_bytes.nd rfl (by first | exact Or.inl rfl | exact Or.inr rfl) (pe_lst pa_nil))
      (pss_cons (ps_for PassesOwn.never rfl (pi_range1 (by rfl) T.m_range (pa_cons (pv 1) pa_nil)) (pg_name (i := 3) sc_word_bytes.nd rfl (by first | exact Or.inl rfl | exact Or.inr rfl)) (pss_cons (ps_expr (pe_bm PySem.F.plainAttrs_list PySem.F.slot_list_append PySem.F.type_list_append mt_append (pv 2) (pa_cons (pe_op op_and (pv 0) pe_int) pa_nil)))
      (pss_one (ps_set (i := 0) sc_word_bytes.nd rfl (by first | exact Or.inl rfl | exact Or.inr rfl) (pe_op op_shr (pv 0) pe_int)))))
      (pss_one (ps_ret (pv 2))))), ?_⟩
    refine ⟨Nat.zero_le _, fun p hp => ?_⟩
    walk_at "go"
    refine for_rangeD (lo := 0) (n := k) (fun i σ H2 => ∃ o, σ = [some (.int (n / 256 ^ i)), some (.int k), some (.ref p), o] ∧ Same H H2 ∧ H2 p = some (.lst ((wb n i).map V.int))) ⟨none, by rw [show (256 : Int) ^ 0 = 1 from rfl, Int.ediv_one]; rfl, Same.new hp, upd_same⟩ ?_ ?_
    · rintro i _ H2 hi ⟨o, rfl, s2, hl⟩
      refine ⟨_, rfl, .inl ⟨rfl, _, SqL.of hl⟩, ?_⟩
      walk_at "go"
      refine ⟨_, _, _, rfl, rfl, hl, (by rw [List.length_map, wb_len]; exact small64' (by omega)), ?_⟩
      walk_at "go"
      simp only [show Builtin.bitAnd (n / 256 ^ i) 255 = n / 256 ^ i % 256 from PySem.W.kbt_mask _ 8]
      refine ⟨some (.int (0 + (i : Int))), ?_, fun b o e => ?_, ?_⟩
      · rw [Int.pow_succ, ← Int.ediv_ediv_of_nonneg (Int.le_of_lt (Int.pow_pos (by decide)))]; rfl
      · rw [upd_ne (ne_of_none e hp)]; exact s2 _ _ e
      · rw [upd_same, wb_snoc, List.map_append]; rfl
    · rintro _ H2 ⟨o, rfl, s2, hl⟩
      exact ⟨_, rfl, q p H2 s2 hp hl⟩

end
/-! ### numbers in groups of seven bits, written -/
def wu (n : Int) : List Int := if h : n < 128 then [n] else (128 + n % 128) :: wu (n / 128)
termination_by n.toNat
decreasing_by omega
theorem wu_len : ∀ (k : Nat) (n : Int), 0 ≤ n → n < 128 ^ k → (wu n).length ≤ max k 1
  | 0, n, h0, h => by
    have : n = 0 := by simp at h; omega
    subst this
    rw [wu, dif_pos (by decide)]; simp
  | k + 1, n, h0, h => by
    rw [wu]
    split
    · simp
    · have e : (128 : Int) ^ (k + 1) = 128 ^ k * 128 := Int.pow_succ 128 k
      have p : (0 : Int) < 128 ^ k := Int.pow_pos (by decide)
      have ih := wu_len k (n / 128) (by omega) (by omega)
      simp only [List.length_cons]
      have hk : k ≠ 0 := fun z => by subst z; simp at h; omega
      omega
theorem wu_bytes (n : Int) (h : 0 ≤ n) : ∀ b ∈ wu n, 0 ≤ b ∧ b ≤ 255 := by
  rw [wu]
  split
  · intro b hb
    rw [List.mem_singleton] at hb; omega
  · intro b hb
    rcases List.mem_cons.mp hb with rfl | hb
    · omega
    · exact wu_bytes (n / 128) (by omega) b hb
termination_by n.toNat
decreasing_by omega

/-! ### a tape of numbers made from the script, and draws from it -/
def Nn (ts : List Int) : Prop := ∀ x ∈ ts, 0 ≤ x
theorem nn_nil : Nn [] := fun _ h => nomatch h
theorem Nn.snoc {ts : List Int} (h : Nn ts) {x : Int} (hx : 0 ≤ x) : Nn (ts ++ [x]) := fun y hy => by
  rcases List.mem_append.mp hy with hy | hy
  · exact h y hy
  · rw [List.mem_singleton] at hy; omega
def LstT (H : Hp) (Q : VK) (xs : List Int) : Prop := ∀ p H', Same H H' → H p = none → H' p = some (.lst (xs.map V.int)) → Q (.ref p) H'
def sp__law_tape (K : PySem.W.Frag) (cs : Cs) : Sp := fun vs H Q _ => ∃ (a : Addr) (ns : List Int), vs = [.ref a] ∧ SqL K H a (ns.map V.int) ∧ ns.length ≤ 63 ∧ ∀ ts : List Int, Nn ts → ts.length ≤ 2520 → LstT H Q ts
def sp__law_draw (K : PySem.W.Frag) (cs : Cs) : Sp := fun vs H Q _ => ∃ (a : Addr) (ts : List Int) (p : Int) (m : Int), vs = [.ref a, .int p, .int m] ∧ SqL K H a (ts.map V.int) ∧ (0 ≤ p ∧ p ≤ 1000000) ∧ 0 < m ∧ ∀ v : Int, 0 ≤ v → v < m → Q (.int v) H
section
variable {P : Program} {w : World} {K : PySem.W.Frag} {mg : Str → Option Value} {base : Heap} {cs : Cs}
theorem c__law_tape (D : Def K mg "_law_tape" s__law_tape ["script"]) (T : Tp w K mg cs)  : Cal P w K mg base CX0 1 "_law_tape" (sp__law_tape K cs) := by
  refine D.ok sc__law_tape (fun vs H Q E h => ?_) (fun f cdv A outer s H vs Q E hr h => ?_)
  · obtain ⟨a, ns, rfl, _⟩ := h; rfl
  · obtain ⟨a, ns, rfl, hS, hlen, q⟩ := h
    refine ⟨_, (pss_cons (ps_set (i := 1) sc__law_tape.nd rfl (by first | exact Or.inl rfl | exact Or.inr rfl) (pe_lst pa_nil))
      (pss_cons (ps_for PassesOwn.never rfl (pi_list (pv 0)) (pg_name (i := 2) sc__law_tape.nd rfl (by first | exact Or.inl rfl | exact Or.inr rfl)) (pss_cons (ps_set (i := 3) sc__law_tape.nd rfl (by first | exact Or.inl rfl | exact Or.inr rfl) (pe_op op_mul pe_int (pe_callTy call_int1 (by rfl) T.m_int (by decide +kernel) (pa_cons (pv 2) pa_nil))))
      (C8.pss_cut (ps_if (pt_cmpR op_lt (pv 3) pe_int (by first | rfl | exact nomark _)) (pss_one (ps_set (i := 3) sc__law_tape.nd rfl (by first | exact Or.inl rfl | exact Or.inr rfl) (pe_op op_sub (pe_un un_neg pe_int) (pv 3)))) pss_nil)
      (pss_one (ps_if (pt_cmpR op_ge (pv 3) (pe_op op_pow pe_int pe_int) (by first | rfl | exact nomark _)) (pss_one (ps_for PassesOwn.never rfl (pi_range1 (by rfl) T.m_range (pa_cons pe_int pa_nil)) (pg_name (i := 4) sc__law_tape.nd rfl (by first | exact Or.inl rfl | exact Or.inr rfl)) (pss_one (ps_if (pt_cmpR op_gt (pv 3) pe_int (by first | rfl | exact nomark _)) (pss_cons (ps_expr (pe_bm PySem.F.plainAttrs_list PySem.F.slot_list_append PySem.F.type_list_append mt_append (pv 1) (pa_cons (pe_op op_mod (pe_callTy call_int1 (by rfl) T.m_int (by decide +kernel) (pa_cons (pv 3) pa_nil)) pe_int) pa_nil)))
      (pss_one (ps_set (i := 3) sc__law_tape.nd rfl (by first | exact Or.inl rfl | exact Or.inr rfl) (pe_op op_fdiv (pv 3) pe_int)))) pss_nil)))) (pss_one (ps_for PassesOwn.never rfl (pi_range1 (by rfl) T.m_range (pa_cons pe_int pa_nil)) (pg_name (i := 4) sc__law_tape.nd rfl (by first | exact Or.inl rfl | exact Or.inr rfl)) (pss_cons (ps_set (i := 5) sc__law_tape.nd rfl (by first | exact Or.inl rfl | exact Or.inr rfl) (pe_op op_mod (pe_callTy call_int1 (by rfl) T.m_int (by decide +kernel) (pa_cons (pe_op op_add (pe_op op_add (pe_op op_mul (pv 3) pe_int) (pe_op op_mul (pv 4) pe_int)) pe_int) pa_nil)) pe_int))
      (pss_one (ps_expr (pe_bm PySem.F.plainAttrs_list PySem.F.slot_list_append PySem.F.type_list_append mt_append (pv 1) (pa_cons (pe_op op_mod (pe_callTy call_int1 (by rfl) T.m_int (by decide +kernel) (pa_cons (pe_op op_add (pe_op op_mul (pv 5) pe_int) (pe_op op_fdiv (pv 5) pe_int)) pa_nil)) pe_int) pa_nil))))))))))))
      (pss_one (ps_ret (pv 1))))), ?_⟩
    walk_at "go"
    intro p hp
    generalize e1 : upd H p (.lst []) = H1
    obtain ⟨s1, k1⟩ : Same H H1 ∧ H1 p = some (.lst (([] : List Int).map V.int)) := by subst e1; exact ⟨Same.new hp, upd_same⟩
    refine ⟨_, rfl, a, rfl, ⟨_, s1.seq hS⟩, for_listD (xs := ns.map V.int) (fun i σ H2 => ∃ (ts : List Int) (o2 o3 o4 o5 : Option V), σ = [some (.ref a), some (.ref p), o2, o3, o4, o5] ∧ Nn ts ∧ ts.length ≤ 40 * i ∧ Same H H2 ∧ H2 p = some (.lst (ts.map V.int)))
      ⟨[], _, _, _, _, rfl, nn_nil, Nat.le_refl _, s1, k1⟩ (fun i σ H2 _ h => by obtain ⟨ts, o2, o3, o4, o5, _, _, _, s2, _⟩ := h; exact s2.seq hS) ?_ ?_⟩
    · rintro i x _ H2 hx ⟨ts, o2, o3, o4, o5, rfl, hN, hl, s2, k2⟩
      obtain ⟨n, rfl⟩ : ∃ n, x = .int n := by
        rw [List.getElem?_map] at hx
        cases e : ns[i]? with
        | none => rw [e] at hx; cases hx
        | some k => rw [e] at hx; cases hx; exact ⟨k, rfl⟩
      have hi : i < ns.length := by
        have := (List.getElem?_eq_some_iff.mp hx).1
        rw [List.length_map] at this; exact this
      walk_at "go"
      refine ⟨fun σ H3 => H2 = H3 ∧ ∃ m : Int, 0 ≤ m ∧ σ = [some (.ref a), some (.ref p), some (.int n), some (.int m), o4, o5], ?_, ?_⟩
      · walk_at "go"
        refine ite2 (fun c => ?_) (fun c => ?_)
        · have c' : 2 * n < 0 := of_decide_eq_true c
          walk_at "go"
          exact ⟨_, by omega, rfl⟩
        · have c' : ¬ 2 * n < 0 := of_decide_eq_false (Bool.eq_false_iff.mpr c)
          exact ⟨rfl, _, by omega, rfl⟩
      rintro _ _ ⟨rfl, m, hm, rfl⟩
      walk_at "go"
      refine ite2 (fun c => ?_) (fun c => ?_)
      · refine ⟨_, rfl, by decide, by decide, for_rangeD (lo := 0) (n := 40) (fun j σ H3 => ∃ (ts' : List Int) (m' : Int) (o : Option V), σ = [some (.ref a), some (.ref p), some (.int n), some (.int m'), o, o5] ∧ Nn ts' ∧ ts'.length ≤ 40 * i + j ∧ Same H H3 ∧ H3 p = some (.lst (ts'.map V.int)))
          ⟨ts, m, _, rfl, hN, by omega, s2, k2⟩ ?_ ?_⟩
        · rintro j _ H3 hj ⟨ts', m', o, rfl, hN', hl', s3, k3⟩
          walk_at "go"
          refine ite2 (fun c => ?_) (fun c => ?_)
          · refine ⟨_, rfl, .inl ⟨rfl, _, SqL.of k3⟩, ?_⟩
            walk_at "go"
            refine ⟨_, _, _, rfl, rfl, k3, (by rw [List.length_map]; exact small64' (by omega)), ?_⟩
            walk_at "go"
            refine ⟨ts' ++ [m' % 1000], _, _, rfl, hN'.snoc (by omega), by rw [List.length_append, List.length_singleton]; omega, fun b o e => ?_, ?_⟩
            · rw [upd_ne (ne_of_none e hp)]; exact s3 _ _ e
            · rw [upd_same, List.map_append]; rfl
          · exact ⟨ts', m', _, rfl, hN', by omega, s3, k3⟩
        · rintro _ H3 ⟨ts', m', o, rfl, hN', hl', s3, k3⟩
          exact ⟨ts', _, _, _, _, rfl, hN', by omega, s3, k3⟩
      · refine ⟨_, rfl, by decide, by decide, for_rangeD (lo := 0) (n := 3) (fun j σ H3 => ∃ (ts' : List Int) (o o' : Option V), σ = [some (.ref a), some (.ref p), some (.int n), some (.int m), o, o'] ∧ Nn ts' ∧ ts'.length ≤ 40 * i + j ∧ Same H H3 ∧ H3 p = some (.lst (ts'.map V.int)))
          ⟨ts, _, _, rfl, hN, by omega, s2, k2⟩ ?_ ?_⟩
        · rintro j _ H3 hj ⟨ts', o, o', rfl, hN', hl', s3, k3⟩
          walk_at "go"
          refine ⟨.inl ⟨rfl, _, SqL.of k3⟩, ?_⟩
          walk_at "go"
          generalize (m * 48271 + (0 + (j : Int)) * 40503 + 11) % 2147483629 = fi
          refine ⟨_, _, _, rfl, rfl, k3, (by rw [List.length_map]; exact small64' (by omega)), ?_⟩
          walk_at "go"
          refine ⟨ts' ++ [(fi * 69621 + fi / 65536) % 2147483629], _, _, rfl, hN'.snoc (by omega), by rw [List.length_append, List.length_singleton]; omega, fun b o e => ?_, ?_⟩
          · rw [upd_ne (ne_of_none e hp)]; exact s3 _ _ e
          · rw [upd_same, List.map_append]; rfl
        · rintro _ H3 ⟨ts', o, o', rfl, hN', hl', s3, k3⟩
          exact ⟨ts', _, _, _, _, rfl, hN', by omega, s3, k3⟩
    · rintro _ H2 ⟨ts, o2, o3, o4, o5, rfl, hN, hl, s2, k2⟩
      rw [List.length_map] at hl
      walk_at "go"
      exact q ts hN (by omega) p H2 s2 hp k2
theorem c__law_draw (D : Def K mg "_law_draw" s__law_draw ["tape", "at", "many"]) (T : Tp w K mg cs)  : Cal P w K mg base CX0 1 "_law_draw" (sp__law_draw K cs) := by
  refine D.ok sc__law_draw (fun vs H Q E h => ?_) (fun f cdv A outer s H vs Q E hr h => ?_)
  · obtain ⟨a, ts, p, m, rfl, _⟩ := h; rfl
  · obtain ⟨a, ts, p, m, rfl, hS, ⟨hp0, hp⟩, hm, q⟩ := h
    obtain ⟨p, rfl⟩ := Int.eq_ofNat_of_zero_le hp0
    refine ⟨_, (pss_cons (ps_if (pt_cmpR op_lt (pv 1) (pe_callB call_len_seq (by rfl) T.m_len PySem.boot_len (pa_cons (pv 0) pa_nil)) (by first | rfl | exact nomark _)) (pss_one (ps_ret (pe_op op_mod (pe_callTy call_int1 (by rfl) T.m_int (by decide +kernel) (pa_cons (pe_ix ix_list (pv 0) (pv 1) (fun _ _ => rfl)) pa_nil)) (pv 2)))) pss_nil)
      (pss_cons (ps_set (i := 3) sc__law_draw.nd rfl (by first | exact Or.inl rfl | exact Or.inr rfl) pe_int)
      (C8.pss_cut (ps_if (pt_cmpR op_gt (pe_callB call_len_seq (by rfl) T.m_len PySem.boot_len (pa_cons (pv 0) pa_nil)) pe_int (by first | rfl | exact nomark _)) (pss_one (ps_set (i := 3) sc__law_draw.nd rfl (by first | exact Or.inl rfl | exact Or.inr rfl) (pe_ix ix_list (pv 0) (pe_op op_mod (pe_callTy call_int1 (by rfl) T.m_int (by decide +kernel) (pa_cons (pv 1) pa_nil)) (pe_callB call_len_seq (by rfl) T.m_len PySem.boot_len (pa_cons (pv 0) pa_nil))) (fun _ _ => rfl)))) pss_nil)
      (pss_one (ps_ret (pe_op op_mod (pe_op op_mod (pe_callTy call_int1 (by rfl) T.m_int (by decide +kernel) (pa_cons (pe_op op_add (pe_op op_mul (pe_op op_mul (pe_op op_add (pv 3) (pv 1)) (pe_op op_add (pv 1) pe_int)) pe_int) (pe_op op_mul (pv 1) pe_int)) pa_nil)) pe_int) (pv 2))))))), ?_⟩
    walk_at "go"
    simp only [List.length_map]
    refine ite2 (fun c => ?_) (fun c => ?_)
    · have c' : (p : Int) < ts.length := of_decide_eq_true c
      walk_at "go"
      exact q _ (Int.emod_nonneg _ (by omega)) (Int.emod_lt_of_pos _ hm)
    · walk_at "go"
      refine ⟨fun σ H2 => H = H2 ∧ ∃ n : Int, σ = [some (.ref a), some (.int p), some (.int m), some (.int n)], ?_, ?_⟩
      · walk_at "go"
        simp only [List.length_map]
        refine ite2 (fun c => ?_) (fun c => ?_)
        · have c' : (0 : Int) < ts.length := of_decide_eq_true c
          obtain ⟨k, ek, hk⟩ : ∃ k : Nat, (p : Int) % (ts.length : Int) = (k : Int) ∧ k < ts.length := ⟨p % ts.length, by omega, Nat.mod_lt _ (by omega)⟩
          walk_at "go"
          simp only [List.length_map, ek]
          refine ⟨by show (0 : Int) < ts.length; omega, ?_⟩
          walk_at "go"
          exact ⟨_, rfl⟩
        · exact ⟨rfl, _, rfl⟩
      rintro _ _ ⟨rfl, n, rfl⟩
      walk_at "go"
      exact q _ (Int.emod_nonneg _ (by omega)) (Int.emod_lt_of_pos _ hm)
end

theorem ix_or {X : Cx} : IxR X (fun x y H Q => L2.rIxL X.K x y H Q ∨ L2.rIxT X.K x y H Q) := by
  intro value slice pins s σ H x y v u Q I rx ry h hs
  rcases h with h | h
  · exact ix_list value slice pins s σ H x y v u Q I rx ry h hs
  · exact ix_tup value slice pins s σ H x y v u Q I rx ry h hs
theorem eqvAll_ints : ∀ ns ms : List Int, PyData.eqvAll (ns.map PyData.int) (ms.map PyData.int) = decide (ns = ms)
  | [], [] => by simp [PyData.eqvAll]
  | [], _ :: _ => by simp [PyData.eqvAll]
  | _ :: _, [] => by simp [PyData.eqvAll]
  | n :: ns, m :: ms => by
    rw [List.map_cons, List.map_cons, PyData.eqvAll, eqvAll_ints ns ms, PyData.eqv, Bool.eq_iff_iff]
    simp
theorem eqv_ints2 (ns ms : List Int) : PyData.eqv (.list (ns.map PyData.int)) (.list (ms.map PyData.int)) = decide (ns = ms) := by rw [PyData.eqv, eqvAll_ints]
theorem neD_ints {K : PySem.W.Frag} {H : Hp} {a b : Addr} {ns ms : List Int} {Q : VK} (h1 : SqL K H a (ns.map V.int)) (h2 : SqL K H b (ms.map V.int)) (q : Q (.bl (!decide (ns = ms))) H) : rNeD K (.ref a) (.ref b) H Q :=
  ⟨_, _, dp_ints h1, dp_ints h2, shaped_ints _, shaped_ints _, by rw [eqv_ints2]; exact q⟩
theorem eqD_ints {K : PySem.W.Frag} {H : Hp} {a b : Addr} {ns ms : List Int} {Q : VK} (h1 : SqL K H a (ns.map V.int)) (h2 : SqL K H b (ms.map V.int)) (q : Q (.bl (decide (ns = ms))) H) : rEqD K (.ref a) (.ref b) H Q :=
  ⟨_, _, dp_ints h1, dp_ints h2, shaped_ints _, shaped_ints _, by rw [eqv_ints2]; exact q⟩
def Flat (x : V) : Prop := (∃ n, x = .int n) ∨ (∃ b, x = .bl b) ∨ ∃ z, x = .str z ∧ PyData.strOk z = true
/-- two values that are the same data, lists and tuples nested at most d deep -/
def Al (K : PySem.W.Frag) (H : Hp) : Nat → V → V → Prop
  | 0, x, y => x = y ∧ Flat x
  | d + 1, x, y => (x = y ∧ Flat x) ∨ ∃ (a b : Addr) (xs ys : List V), x = .ref a ∧ y = .ref b ∧ ((H a = some (.tup xs) ∧ H b = some (.tup ys)) ∨ (H a = some (.lst xs) ∧ H b = some (.lst ys))) ∧ xs.length = ys.length ∧ xs.length ≤ 10000 ∧ ∀ i, i < xs.length → Al K H d (xs.getD i .non) (ys.getD i .non)
theorem alI {K : PySem.W.Frag} {H : Hp} (d : Nat) (n : Int) : Al K H d (.int n) (.int n) := by
  cases d with
  | zero => exact ⟨rfl, .inl ⟨n, rfl⟩⟩
  | succ d => exact .inl ⟨rfl, .inl ⟨n, rfl⟩⟩
theorem alB {K : PySem.W.Frag} {H : Hp} (d : Nat) (b : Bool) : Al K H d (.bl b) (.bl b) := by
  cases d with
  | zero => exact ⟨rfl, .inr (.inl ⟨b, rfl⟩)⟩
  | succ d => exact .inl ⟨rfl, .inr (.inl ⟨b, rfl⟩)⟩
theorem alS {K : PySem.W.Frag} {H : Hp} (d : Nat) {z : Str} (h : PyData.strOk z = true) : Al K H d (.str z) (.str z) := by
  cases d with
  | zero => exact ⟨rfl, .inr (.inr ⟨z, rfl, h⟩)⟩
  | succ d => exact .inl ⟨rfl, .inr (.inr ⟨z, rfl, h⟩)⟩
theorem alInts {K : PySem.W.Frag} {H : Hp} {a b : Addr} {ns : List Int} (d : Nat) (ha : H a = some (.lst (ns.map V.int))) (hb : H b = some (.lst (ns.map V.int))) (hl : ns.length ≤ 10000) : Al K H (d + 1) (.ref a) (.ref b) :=
  .inr ⟨a, b, _, _, rfl, rfl, .inr ⟨ha, hb⟩, rfl, by rw [List.length_map]; exact hl, fun i hi => by
    rw [List.length_map] at hi
    rw [List.getD_eq_getElem?_getD, List.getElem?_map, List.getElem?_eq_getElem hi]
    exact alI d _⟩
def sp__law_equal (K : PySem.W.Frag) (cs : Cs) (d : Nat) : Sp := fun vs H Q _ => ∃ x y : V, vs = [x, y] ∧ Al K H d x y ∧ Q (.bl true) H
def sp__law_equal_at (K : PySem.W.Frag) (cs : Cs) : Nat → Sp
  | 0 => fun _ _ _ _ => False
  | d + 1 => sp__law_equal K cs d
section
variable {P : Program} {w : World} {K : PySem.W.Frag} {mg : Str → Option Value} {base : Heap} {cs : Cs}
theorem c__law_equal_step (D : Def K mg "_law_equal" s__law_equal ["actual", "due"]) (T : Tp w K mg cs)  (d : Nat) (c__law_equal : Cal P w K mg base CX0 (1 + d) "_law_equal" (sp__law_equal_at K cs d)) : Cal P w K mg base CX0 (1 + d + 1) "_law_equal" (sp__law_equal K cs d) := by
  refine D.ok sc__law_equal (fun vs H Q E h => ?_) (fun f cdv A outer s H vs Q E hr h => ?_)
  · obtain ⟨x, y, rfl, _⟩ := h; rfl
  · obtain ⟨x, y, rfl, hA, q⟩ := h
    refine ⟨_, (pss_cons (ps_if (pt_cmpR op_isN (pv 1) pe_non (by first | rfl | exact nomark _)) (pss_one (ps_ret (pe_cmpR op_isN (pv 0) pe_non (by first | rfl | exact nomark _)))) pss_nil)
      (pss_cons (ps_if (pt_val (pe_callB call_isi (by rfl) T.m_isinstance (by decide +kernel) (pa_cons (pv 1) (pa_cons (pe_bltn (v := .ty "bool") (u := .type "bool") (by rfl) T.m_bool (by decide +kernel) rfl) pa_nil)))) (pss_one (ps_ret (pe_and (pe_callB call_isi (by rfl) T.m_isinstance (by decide +kernel) (pa_cons (pv 0) (pa_cons (pe_bltn (v := .ty "bool") (u := .type "bool") (by rfl) T.m_bool (by decide +kernel) rfl) pa_nil))) (pe_one (pe_cmpR (op_eqD (hu64 hr)) (pv 0) (pv 1) (by first | rfl | exact nomark _)))))) pss_nil)
      (pss_cons (ps_if (pt_val (pe_callB call_isi (by rfl) T.m_isinstance (by decide +kernel) (pa_cons (pv 1) (pa_cons (pe_bltn (v := .ty "int") (u := .type "int") (by rfl) T.m_int (by decide +kernel) rfl) pa_nil)))) (pss_one (ps_ret (pe_and (pe_callB call_isi (by rfl) T.m_isinstance (by decide +kernel) (pa_cons (pv 0) (pa_cons (pe_bltn (v := .ty "int") (u := .type "int") (by rfl) T.m_int (by decide +kernel) rfl) pa_nil))) (pe_and (pe_not (pe_callB call_isi (by rfl) T.m_isinstance (by decide +kernel) (pa_cons (pv 0) (pa_cons (pe_bltn (v := .ty "bool") (u := .type "bool") (by rfl) T.m_bool (by decide +kernel) rfl) pa_nil)))) (pe_one (pe_cmpR (op_eqD (hu64 hr)) (pv 0) (pv 1) (by first | rfl | exact nomark _))))))) pss_nil)
      (pss_cons (ps_if (pt_val (pe_callB call_isi (by rfl) T.m_isinstance (by decide +kernel) (pa_cons (pv 1) (pa_cons (pe_bltn (v := .ty "str") (u := .type "str") (by rfl) T.m_str (by decide +kernel) rfl) pa_nil)))) (pss_one (ps_ret (pe_and (pe_callB call_isi (by rfl) T.m_isinstance (by decide +kernel) (pa_cons (pv 0) (pa_cons (pe_bltn (v := .ty "str") (u := .type "str") (by rfl) T.m_str (by decide +kernel) rfl) pa_nil))) (pe_one (pe_cmpR (op_eqD (hu64 hr)) (pv 0) (pv 1) (by first | rfl | exact nomark _)))))) pss_nil)
      (pss_cons (ps_if (PW.pt (pw_and (pt_val (pe_callB call_isi (by rfl) T.m_isinstance (by decide +kernel) (pa_cons (pv 1) (pa_cons (pe_bltn (v := .ty "tuple") (u := .type "tuple") (by rfl) T.m_tuple (by decide +kernel) rfl) pa_nil)))) (pw_and1 (pt_not (pt_val (pe_callB call_isi (by rfl) T.m_isinstance (by decide +kernel) (pa_cons (pv 0) (pa_cons (pe_bltn (v := .ty "tuple") (u := .type "tuple") (by rfl) T.m_tuple (by decide +kernel) rfl) pa_nil)))))))) (pss_one (ps_ret pe_bl)) pss_nil)
      (pss_cons (ps_if (PW.pt (pw_and (pt_val (pe_callB call_isi (by rfl) T.m_isinstance (by decide +kernel) (pa_cons (pv 1) (pa_cons (pe_bltn (v := .ty "list") (u := .type "list") (by rfl) T.m_list (by decide +kernel) rfl) pa_nil)))) (pw_and1 (pt_not (pt_val (pe_callB call_isi (by rfl) T.m_isinstance (by decide +kernel) (pa_cons (pv 0) (pa_cons (pe_bltn (v := .ty "list") (u := .type "list") (by rfl) T.m_list (by decide +kernel) rfl) pa_nil)))))))) (pss_one (ps_ret pe_bl)) pss_nil)
      (pss_cons (ps_if (pt_cmpR op_ne (pe_callB call_len_seq (by rfl) T.m_len PySem.boot_len (pa_cons (pv 0) pa_nil)) (pe_callB call_len_seq (by rfl) T.m_len PySem.boot_len (pa_cons (pv 1) pa_nil)) (by first | rfl | exact nomark _)) (pss_one (ps_ret pe_bl)) pss_nil)
      (pss_cons (ps_for PassesOwn.never rfl (pi_range1 (by rfl) T.m_range (pa_cons (pe_callB call_len_seq (by rfl) T.m_len PySem.boot_len (pa_cons (pv 1) pa_nil)) pa_nil)) (pg_name (i := 2) sc__law_equal.nd rfl (by first | exact Or.inl rfl | exact Or.inr rfl)) (pss_one (ps_if (pt_not (pt_val (pe_c c__law_equal hr (by omega) (by rfl) (pa_cons (pe_ix ix_or (pv 0) (pv 2) (fun _ _ => rfl)) (pa_cons (pe_ix ix_or (pv 1) (pv 2) (fun _ _ => rfl)) pa_nil))))) (pss_one (ps_ret pe_bl)) pss_nil)))
      (pss_one (ps_ret pe_bl)))))))))), ?_⟩
    have hcase : (x = y ∧ Flat x) ∨ ∃ e, d = e + 1 ∧ ∃ (a b : Addr) (xs ys : List V), x = .ref a ∧ y = .ref b ∧ ((H a = some (.tup xs) ∧ H b = some (.tup ys)) ∨ (H a = some (.lst xs) ∧ H b = some (.lst ys))) ∧ xs.length = ys.length ∧ xs.length ≤ 10000 ∧ ∀ i, i < xs.length → Al K H e (xs.getD i .non) (ys.getD i .non) := by
      cases d with
      | zero => exact .inl hA
      | succ e => exact hA.elim .inl fun h => .inr ⟨e, rfl, h⟩
    rcases hcase with ⟨rfl, ⟨n, rfl⟩ | ⟨b, rfl⟩ | ⟨z, rfl, hok⟩⟩ | ⟨e, rfl, a, b, xs, ys, rfl, rfl, ⟨ka, kb⟩ | ⟨ka, kb⟩, hl, hl2, hk⟩
    · walk_at "go"
      exact eqD_same (.int _) (.int _) (by unfold SeqAt.shaped; simp [PyData.canLay0, PyData.depth]) q
    · walk_at "go"
      refine ⟨_, .ty _, _, _, true, rfl, .ty _, .base (.bl _), kit_ty (by decide +kernel), ?_⟩
      walk_at "go"
      refine ⟨_, .ty _, _, _, true, rfl, .ty _, .base (.bl _), kit_ty (by decide +kernel), ?_⟩
      walk_at "go"
      exact eqD_same (.bl _) (.bl _) (by unfold SeqAt.shaped; simp [PyData.canLay0, PyData.depth]) q
    · walk_at "go"
      refine ⟨_, .ty _, _, _, false, rfl, .ty _, .base (.str _), kit_ty (by decide +kernel), ?_⟩
      walk_at "go"
      exact eqD_same (d := .str z) (.str _) (.str _) (by unfold SeqAt.shaped; simp [PyData.canLay0, PyData.depth, hok]) q
    · walk_at "go"
      refine ⟨_, .ty _, _, _, false, rfl, .ty _, .base (.tup kb), kit_ty (by decide +kernel), ?_⟩
      walk_at "go"
      refine ⟨_, .ty _, _, _, false, rfl, .ty _, .base (.tup kb), kit_ty (by decide +kernel), ?_⟩
      walk_at "go"
      refine ⟨_, .ty _, _, _, false, rfl, .ty _, .base (.tup kb), kit_ty (by decide +kernel), ?_⟩
      walk_at "go"
      refine ⟨_, .ty _, _, _, false, rfl, .ty _, .base (.tup kb), kit_ty (by decide +kernel), ?_⟩
      walk_at "go"
      refine ⟨a, xs, rfl, .inr (SqT.of ka), ?_⟩
      walk_at "go"
      refine ⟨b, ys, rfl, .inr (SqT.of kb), ?_⟩
      walk_at "go"
      refine ifNe (by rw [hl]) ?_
      walk_at "go"
      have hy : ys.length ≤ 10000 := by omega
      refine ⟨b, ys, rfl, (.inr (SqT.of kb)), ?_⟩
      walk_at "go"
      refine for_rangeD (lo := 0) (n := ys.length) (fun i σ H2 => H = H2 ∧ ∃ o, σ = [some (.ref a), some (.ref b), o]) ⟨rfl, _, rfl⟩ ?_ ?_
      · rintro i _ _ hi ⟨rfl, o, rfl⟩
        have ex : atI xs (i : Int) = some (xs.getD i .non) := atI_nat (by rw [List.getElem?_eq_getElem (by omega), List.getD_eq_getElem?_getD, List.getElem?_eq_getElem (by omega)]; rfl)
        have ey : atI ys (i : Int) = some (ys.getD i .non) := atI_nat (by rw [List.getElem?_eq_getElem (by omega), List.getD_eq_getElem?_getD, List.getElem?_eq_getElem (by omega)]; rfl)
        rw [Int.zero_add]
        walk_at "go"
        refine .inr ⟨_, _, _, _, rfl, rfl, SqT.of ka, ex, ?_⟩
        walk_at "go"
        refine .inr ⟨_, _, _, _, rfl, rfl, SqT.of kb, ey, ?_⟩
        refine ⟨_, _, rfl, hk i (by omega), ?_⟩
        walk_at "go"
        exact ⟨_, rfl⟩
      · rintro _ _ ⟨rfl, o, rfl⟩
        walk_at "go"
        exact q
    · walk_at "go"
      refine ⟨_, .ty _, _, _, false, rfl, .ty _, .base (.lst kb), kit_ty (by decide +kernel), ?_⟩
      walk_at "go"
      refine ⟨_, .ty _, _, _, false, rfl, .ty _, .base (.lst kb), kit_ty (by decide +kernel), ?_⟩
      walk_at "go"
      refine ⟨_, .ty _, _, _, false, rfl, .ty _, .base (.lst kb), kit_ty (by decide +kernel), ?_⟩
      walk_at "go"
      refine ⟨_, .ty _, _, _, false, rfl, .ty _, .base (.lst kb), kit_ty (by decide +kernel), ?_⟩
      walk_at "go"
      refine ⟨a, xs, rfl, .inl (SqL.of ka), ?_⟩
      walk_at "go"
      refine ⟨b, ys, rfl, .inl (SqL.of kb), ?_⟩
      walk_at "go"
      refine ifNe (by rw [hl]) ?_
      walk_at "go"
      have hy : ys.length ≤ 10000 := by omega
      refine ⟨b, ys, rfl, (.inl (SqL.of kb)), ?_⟩
      walk_at "go"
      refine for_rangeD (lo := 0) (n := ys.length) (fun i σ H2 => H = H2 ∧ ∃ o, σ = [some (.ref a), some (.ref b), o]) ⟨rfl, _, rfl⟩ ?_ ?_
      · rintro i _ _ hi ⟨rfl, o, rfl⟩
        have ex : atI xs (i : Int) = some (xs.getD i .non) := atI_nat (by rw [List.getElem?_eq_getElem (by omega), List.getD_eq_getElem?_getD, List.getElem?_eq_getElem (by omega)]; rfl)
        have ey : atI ys (i : Int) = some (ys.getD i .non) := atI_nat (by rw [List.getElem?_eq_getElem (by omega), List.getD_eq_getElem?_getD, List.getElem?_eq_getElem (by omega)]; rfl)
        rw [Int.zero_add]
        walk_at "go"
        refine .inl ⟨_, _, _, _, rfl, rfl, SqL.of ka, ex, ?_⟩
        walk_at "go"
        refine .inl ⟨_, _, _, _, rfl, rfl, SqL.of kb, ey, ?_⟩
        refine ⟨_, _, rfl, hk i (by omega), ?_⟩
        walk_at "go"
        exact ⟨_, rfl⟩
      · rintro _ _ ⟨rfl, o, rfl⟩
        walk_at "go"
        exact q
theorem c__law_equal (D : Def K mg "_law_equal" s__law_equal ["actual", "due"]) (T : Tp w K mg cs)  : ∀ d : Nat, Cal P w K mg base CX0 (1 + d + 1) "_law_equal" (sp__law_equal K cs d)
  | 0 => c__law_equal_step D T  0 (D.none sc__law_equal)
  | d + 1 => c__law_equal_step D T  (d + 1) (c__law_equal D T  d)
end

/-! ### numbers with a head and a check: what the defs compute -/
def MM : Int := 2147483647
/-- the check of bytes behind others -/
def mxs (c m : Int) (xs : List Int) : Int := xs.foldl (fun c b => (c * 257 + b + 1) % m) c
def mx (m : Int) (xs : List Int) : Int := mxs 0 m xs
def bodyB (ns : List Int) : List Int := ns.flatMap wu
def pk (hd ns : List Int) : List Int := hd ++ bodyB ns ++ wb (mx MM (hd ++ bodyB ns)) 4
def InR (ns : List Int) : Prop := ∀ n ∈ ns, 0 ≤ n ∧ n < 128 ^ 60
def gr (n : Int) : List Int := (wu n).map (· % 128)
theorem mxs_snoc (c m : Int) (xs : List Int) (b : Int) : mxs c m (xs ++ [b]) = (mxs c m xs * 257 + b + 1) % m := by unfold mxs; rw [List.foldl_append]; rfl
theorem mxs_app (c m : Int) (xs ys : List Int) : mxs c m (xs ++ ys) = mxs (mxs c m xs) m ys := by unfold mxs; rw [List.foldl_append]
theorem mx_snoc (m : Int) (xs : List Int) (b : Int) : mx m (xs ++ [b]) = (mx m xs * 257 + b + 1) % m := mxs_snoc 0 m xs b
theorem mx_rng {m : Int} (h : 0 < m) (xs : List Int) : 0 ≤ mx m xs ∧ mx m xs < m := by
  rcases List.eq_nil_or_concat xs with rfl | ⟨ys, b, rfl⟩
  · exact ⟨Int.le_refl _, h⟩
  · rw [List.concat_eq_append, mx_snoc]
    exact ⟨Int.emod_nonneg _ (by omega), Int.emod_lt_of_pos _ h⟩
theorem md1 (x k m : Int) : (x % m * 257 + k) % m = (x * 257 + k) % m := by
  rw [Int.add_emod, Int.mul_emod, Int.emod_emod, ← Int.mul_emod, ← Int.add_emod]
/-- four bytes at once -/
theorem mxs_four (c m a b d e : Int) : mxs c m [a, b, d, e] = (c * 4362470401 + (((a * 257 + b) * 257 + d) * 257 + e) + 17040900) % m := by
  show (((((c * 257 + a + 1) % m * 257 + b + 1) % m * 257 + d + 1) % m) * 257 + e + 1) % m = _
  rw [Int.add_assoc _ e 1, md1, Int.add_assoc _ d 1, Int.add_assoc _ b 1]
  rw [show (((c * 257 + a + 1) % m * 257 + (b + 1)) % m * 257 + (d + 1)) * 257 + (e + 1) = ((c * 257 + a + 1) % m * 257 + (b + 1)) % m * 257 * 257 + ((d + 1) * 257 + (e + 1)) by omega]
  have h2 : ∀ x k : Int, (x % m * 257 * 257 + k) % m = (x * 257 * 257 + k) % m := fun x k => by
    rw [Int.add_emod, Int.mul_emod, Int.mul_emod (x % m), Int.emod_emod, ← Int.mul_emod x, ← Int.mul_emod, ← Int.add_emod]
  rw [h2, show ((c * 257 + a + 1) % m * 257 + (b + 1)) * 257 * 257 + ((d + 1) * 257 + (e + 1)) = (c * 257 + a + 1) % m * 257 * 257 * 257 + ((b + 1) * 257 * 257 + (d + 1) * 257 + (e + 1)) by omega]
  have h3 : ∀ x k : Int, (x % m * 257 * 257 * 257 + k) % m = (x * 257 * 257 * 257 + k) % m := fun x k => by
    rw [show x % m * 257 * 257 * 257 = x % m * 257 * 257 * 257 from rfl, Int.add_emod, Int.mul_emod (x % m * 257 * 257), show x % m * 257 * 257 = x % m * 257 * 257 + 0 by omega, h2, Int.add_zero, ← Int.mul_emod, ← Int.add_emod]
  rw [h3]
  congr 1
  omega
/-- two different sums stay different, whatever comes behind -/
theorem mx_ne {c d b : Int} (hc : 0 ≤ c ∧ c < MM) (hd : 0 ≤ d ∧ d < MM) (h : c ≠ d) : (c * 257 + b + 1) % MM ≠ (d * 257 + b + 1) % MM := by
  unfold MM at *
  omega
theorem mx_ne_byte {c b e : Int} (hb : 0 ≤ b ∧ b ≤ 255) (he : 0 ≤ e ∧ e ≤ 255) (h : b ≠ e) : (c * 257 + b + 1) % MM ≠ (c * 257 + e + 1) % MM := by
  unfold MM
  omega
theorem mx_app_ne : ∀ (zs : List Int) {xs ys : List Int}, mx MM xs ≠ mx MM ys → mx MM (xs ++ zs) ≠ mx MM (ys ++ zs)
  | [], _, _, h => by rw [List.append_nil, List.append_nil]; exact h
  | b :: zs, xs, ys, h => by
    have e : ∀ l : List Int, l ++ b :: zs = (l ++ [b]) ++ zs := fun l => by simp
    rw [e, e]
    refine mx_app_ne zs ?_
    rw [mx_snoc, mx_snoc]
    exact mx_ne (mx_rng (by decide) _) (mx_rng (by decide) _) h
theorem wb_inj {c d : Int} (hc : 0 ≤ c ∧ c < MM) (hd : 0 ≤ d ∧ d < MM) (h : wb c 4 = wb d 4) : c = d := by
  unfold MM at *
  simp only [wb, List.cons.injEq] at h
  omega
/-! ### groups of seven bits -/
def joinN (g : List Int) : Int := g.reverse.foldl (fun a b => a * 128 + b) 0
theorem joinN_cons (b : Int) (g : List Int) : joinN (b :: g) = joinN g * 128 + b := by unfold joinN; rw [List.reverse_cons, List.foldl_append]; rfl
theorem joinN_snoc : ∀ (g : List Int) (b : Int), joinN (g ++ [b]) = joinN g + b * 128 ^ g.length
  | [], b => by show 0 * 128 + b = 0 + b * 1; omega
  | x :: r, b => by
    rw [List.cons_append, joinN_cons, joinN_snoc r b, joinN_cons, List.length_cons, Int.pow_succ, ← Int.mul_assoc]
    generalize b * 128 ^ r.length = z
    omega
theorem join_gr : ∀ {n : Int}, 0 ≤ n → joinN (gr n) = n := by
  intro n h0
  unfold gr
  rw [wu]
  split
  · rename_i h
    show joinN [n % 128] = n
    unfold joinN
    show 0 * 128 + n % 128 = n
    omega
  · rename_i h
    have ih := join_gr (n := n / 128) (by omega)
    unfold gr at ih
    rw [List.map_cons, joinN_cons, ih]
    omega
termination_by n => n.toNat
decreasing_by omega
def Grp (g : List Int) : Prop := ∀ x ∈ g, 0 ≤ x ∧ x ≤ 127
theorem join_rng : ∀ {g : List Int}, Grp g → 0 ≤ joinN g ∧ joinN g < 128 ^ g.length
  | [], _ => ⟨Int.le_refl _, by decide⟩
  | x :: r, h => by
    have hx := h x (List.mem_cons_self ..)
    have ih := join_rng (g := r) fun y hy => h y (List.mem_cons_of_mem _ hy)
    rw [joinN_cons, List.length_cons, Int.pow_succ]
    omega
/-- what a number's bytes are -/
theorem wu_join : ∀ {g : List Int} {b : Int}, Grp g → 0 ≤ b → b < 128 → (b ≠ 0 ∨ g = []) → wu (joinN (g ++ [b])) = g.map (128 + ·) ++ [b]
  | [], b, _, h0, h1, _ => by
    rw [List.nil_append, show joinN [b] = b from (by show 0 * 128 + b = b; omega), wu, dif_pos h1]; rfl
  | x :: r, b, h, h0, h1, h2 => by
    have hx := h x (List.mem_cons_self ..)
    have hb : b ≠ 0 := h2.elim id fun z => by cases z
    have hr : Grp r := fun y hy => h y (List.mem_cons_of_mem _ hy)
    have ih := wu_join (g := r) (b := b) hr h0 h1 (.inl hb)
    have hp : (1 : Int) ≤ 128 ^ r.length := Int.pow_pos (by decide)
    have hj : 1 ≤ joinN (r ++ [b]) := by
      rw [joinN_snoc]
      have := (join_rng hr).1
      have : 1 * 1 ≤ b * 128 ^ r.length := Int.mul_le_mul (by omega) hp (by decide) h0
      omega
    rw [List.cons_append, joinN_cons, wu, dif_neg (by omega), show (joinN (r ++ [b]) * 128 + x) % 128 = x by omega, show (joinN (r ++ [b]) * 128 + x) / 128 = joinN (r ++ [b]) by omega, ih]
    rfl
/-- how numbers are read: those that are whole, and the groups of the next; or none of it -/
def nst : Option (List Int × List Int) → Int → Option (List Int × List Int)
  | none, _ => none
  | some (ns, g), b => if 128 ≤ b then some (ns, g ++ [b % 128]) else if b = 0 ∧ g ≠ [] then none else some (ns ++ [joinN (g ++ [b])], [])
def nums (xs : List Int) : Option (List Int) := match xs.foldl nst (some ([], [])) with
  | some (ns, []) => some ns
  | _ => none
theorem nst_none : ∀ xs : List Int, xs.foldl nst none = none
  | [] => rfl
  | _ :: r => nst_none r
theorem nst_wu : ∀ {n : Int} (ns g : List Int), 0 ≤ n → (g = [] ∨ 0 < n) → (wu n).foldl nst (some (ns, g)) = some (ns ++ [joinN (g ++ gr n)], []) := by
  intro n ns g h0 h1
  unfold gr
  rw [wu]
  split
  · rename_i h
    show nst (some (ns, g)) n = some (ns ++ [joinN (g ++ [n % 128])], [])
    show (if 128 ≤ n then some (ns, g ++ [n % 128]) else if n = 0 ∧ g ≠ [] then none else some (ns ++ [joinN (g ++ [n])], [])) = _
    rw [if_neg (by omega), if_neg (by rintro ⟨z, y⟩; rcases h1 with h1 | h1; exact y h1; omega), show n % 128 = n by omega]
  · rename_i h
    show (wu (n / 128)).foldl nst (nst (some (ns, g)) (128 + n % 128)) = _
    rw [show nst (some (ns, g)) (128 + n % 128) = some (ns, g ++ [(128 + n % 128) % 128]) from if_pos (by omega), nst_wu (n := n / 128) _ _ (by omega) (.inr (by omega))]
    unfold gr
    simp
termination_by n => n.toNat
decreasing_by omega
theorem nst_body : ∀ (ns ms : List Int), InR ns → (bodyB ns).foldl nst (some (ms, [])) = some (ms ++ ns, [])
  | [], ms, _ => by show some (ms, []) = some (ms ++ [], []); rw [List.append_nil]
  | n :: r, ms, h => by
    have hn := h n (List.mem_cons_self ..)
    show (wu n ++ bodyB r).foldl nst (some (ms, [])) = _
    rw [List.foldl_append, nst_wu ms [] hn.1 (.inl rfl), nst_body r _ fun m hm => h m (List.mem_cons_of_mem _ hm), List.nil_append, join_gr hn.1]
    simp
theorem nums_body {ns : List Int} (h : InR ns) : nums (bodyB ns) = some ns := by unfold nums; rw [nst_body ns [] h]; rfl
/-- what has been read writes the bytes again -/
theorem nst_inv : ∀ (k : Nat) {xs ns g : List Int}, xs.length = k → (∀ x ∈ xs, 0 ≤ x ∧ x ≤ 255) → xs.foldl nst (some ([], [])) = some (ns, g) → bodyB ns ++ g.map (128 + ·) = xs ∧ Grp g ∧ (∀ n ∈ ns, 0 ≤ n ∧ n < 128 ^ k) ∧ ns.length ≤ k := by
  intro k
  induction k with
  | zero =>
    intro xs ns g hk _ h
    have : xs = [] := List.eq_nil_of_length_eq_zero hk
    subst this
    cases h
    exact ⟨rfl, (fun _ z => nomatch z), (fun _ z => nomatch z), Nat.le_refl _⟩
  | succ k ih =>
    intro xs ns g hk hB h
    obtain ⟨ys, b, rfl⟩ : ∃ ys b, xs = ys ++ [b] := by
      rcases List.eq_nil_or_concat xs with rfl | ⟨ys, b, rfl⟩
      · cases hk
      · exact ⟨ys, b, List.concat_eq_append⟩
    rw [List.length_append, List.length_singleton] at hk
    rw [List.foldl_append] at h
    have hb := hB b (List.mem_append.mpr (.inr (List.mem_singleton.mpr rfl)))
    cases e : ys.foldl nst (some ([], [])) with
    | none => rw [e] at h; cases h
    | some st =>
      obtain ⟨ns0, g0⟩ := st
      obtain ⟨i1, i2, i3, i4⟩ := ih (by omega) (fun x hx => hB x (List.mem_append.mpr (.inl hx))) e
      have hg : g0.length ≤ k := by
        have := congrArg List.length i1
        rw [List.length_append, List.length_map] at this
        omega
      have up : ∀ n : Int, n < 128 ^ k → n < 128 ^ (k + 1) := fun n hn => by
        have : (128 : Int) ^ (k + 1) = 128 ^ k * 128 := Int.pow_succ 128 k
        have : (0 : Int) < 128 ^ k := Int.pow_pos (by decide)
        omega
      rw [e] at h
      change (if 128 ≤ b then some (ns0, g0 ++ [b % 128]) else if b = 0 ∧ g0 ≠ [] then none else some (ns0 ++ [joinN (g0 ++ [b])], [])) = some (ns, g) at h
      by_cases c : 128 ≤ b
      · rw [if_pos c] at h
        cases h
        refine ⟨?_, fun x hx => ?_, fun n hn => ⟨(i3 n hn).1, up n (i3 n hn).2⟩, by omega⟩
        · rw [List.map_append, ← List.append_assoc, i1]
          show ys ++ [128 + b % 128] = _
          rw [show 128 + b % 128 = b by omega]
        · rcases List.mem_append.mp hx with hx | hx
          · exact i2 x hx
          · rw [List.mem_singleton] at hx; omega
      · rw [if_neg c] at h
        by_cases d : b = 0 ∧ g0 ≠ []
        · rw [if_pos d] at h; cases h
        · rw [if_neg d] at h
          cases h
          have hg2 : Grp (g0 ++ [b]) := fun x hx => by
            rcases List.mem_append.mp hx with hx | hx
            · exact i2 x hx
            · rw [List.mem_singleton] at hx; omega
          have jr := join_rng hg2
          rw [List.length_append, List.length_singleton] at jr
          refine ⟨?_, (fun _ z => nomatch z), fun n hn => ?_, by rw [List.length_append, List.length_singleton]; omega⟩
          · rw [List.map_nil, List.append_nil]
            unfold bodyB
            rw [List.flatMap_append]
            show bodyB ns0 ++ (wu (joinN (g0 ++ [b])) ++ []) = _
            rw [List.append_nil, wu_join i2 hb.1 (by omega) (by
              by_cases z : b = 0
              · right
                by_cases y : g0 = []
                · exact y
                · exact absurd ⟨z, y⟩ d
              · exact .inl z), ← List.append_assoc, i1]
          · rcases List.mem_append.mp hn with hn | hn
            · exact ⟨(i3 n hn).1, up n (i3 n hn).2⟩
            · rw [List.mem_singleton] at hn
              rw [hn]
              refine ⟨jr.1, Int.lt_of_lt_of_le jr.2 ?_⟩
              have := Nat.pow_le_pow_right (show 0 < 128 by decide) (show g0.length + 1 ≤ k + 1 by omega)
              exact_mod_cast this
theorem nums_inv {xs ns : List Int} (hB : ∀ x ∈ xs, 0 ≤ x ∧ x ≤ 255) (hl : xs.length ≤ 60) (h : nums xs = some ns) : bodyB ns = xs ∧ InR ns ∧ ns.length ≤ 60 := by
  unfold nums at h
  split at h
  · rename_i ms e
    cases h
    obtain ⟨i1, _, i3, i4⟩ := nst_inv xs.length rfl hB e
    refine ⟨by rw [List.map_nil, List.append_nil] at i1; exact i1, fun n hn => ⟨(i3 n hn).1, Int.lt_of_lt_of_le (i3 n hn).2 ?_⟩, by omega⟩
    have := Nat.pow_le_pow_right (show 0 < 128 by decide) hl
    exact_mod_cast this
  · cases h
theorem body_len : ∀ {ns : List Int}, InR ns → (bodyB ns).length ≤ 60 * ns.length
  | [], _ => Nat.le_refl _
  | n :: r, h => by
    have h1 := wu_len 60 n (h n (List.mem_cons_self ..)).1 (h n (List.mem_cons_self ..)).2
    have h2 := body_len (ns := r) fun m hm => h m (List.mem_cons_of_mem _ hm)
    show (wu n ++ bodyB r).length ≤ 60 * (r.length + 1)
    rw [List.length_append]
    simp only [show max 60 1 = 60 from rfl] at h1
    omega
theorem body_bys : ∀ {ns : List Int}, InR ns → Bys (bodyB ns)
  | [], _ => fun _ h => nomatch h
  | n :: r, h => fun x hx => by
    rcases List.mem_append.mp (show x ∈ wu n ++ bodyB r from hx) with hx | hx
    · exact wu_bytes n (h n (List.mem_cons_self ..)).1 x hx
    · exact body_bys (fun m hm => h m (List.mem_cons_of_mem _ hm)) x hx
theorem cut_mid (xs : List V) {k n : Nat} (h : k ≤ n) : cutV xs (some (k : Int)) (some (n : Int)) = (xs.take n).drop k := by
  unfold cutV
  rw [HT.sIx_nat, HT.sIx_nat, List.drop_take]
  rcases Nat.le_total k xs.length with h1 | h1
  · rw [Nat.min_eq_left h1]
    rcases Nat.le_total n xs.length with h2 | h2
    · rw [Nat.min_eq_left h2]
    · rw [Nat.min_eq_right h2, List.take_of_length_le (by rw [List.length_drop]; omega), List.take_of_length_le (by rw [List.length_drop]; omega)]
  · rw [Nat.min_eq_right h1, List.drop_of_length_le (by omega), List.drop_of_length_le h1]; simp
theorem pk_cut (hd ns : List Int) : (pk hd ns).length - 4 = (hd ++ bodyB ns).length ∧ (pk hd ns).take ((hd ++ bodyB ns).length) = hd ++ bodyB ns ∧ (pk hd ns).drop ((hd ++ bodyB ns).length) = wb (mx MM (hd ++ bodyB ns)) 4 := by
  unfold pk
  refine ⟨by rw [List.length_append, wb_len]; omega, List.take_left, List.drop_left⟩
def bodyOf (xs : List Int) : List Int := (xs.take (xs.length - 4)).drop 4
def sp_mix_fours (K : PySem.W.Frag) (cs : Cs) : Sp := fun vs H Q _ => ∃ (a : Addr) (xs : List Int) (c m : Int) (k : Nat), vs = [.int c, .ref a, .int m] ∧ SqL K H a (xs.map V.int) ∧ xs.length = 4 * k ∧ 0 < m ∧ ∀ H', Same H H' → Q (.int (mxs c m xs)) H'
def sp_mix_behind (K : PySem.W.Frag) (cs : Cs) : Sp := fun vs H Q _ => ∃ (a : Addr) (xs : List Int) (c m : Int), vs = [.int c, .ref a, .int m] ∧ SqL K H a (xs.map V.int) ∧ xs.length ≤ 100000 ∧ 0 < m ∧ ∀ H', Same H H' → Q (.int (mxs c m xs)) H'
def sp_mix (K : PySem.W.Frag) (cs : Cs) : Sp := fun vs H Q _ => ∃ (a : Addr) (xs : List Int) (m : Int), vs = [.ref a, .int m] ∧ SqL K H a (xs.map V.int) ∧ xs.length ≤ 100000 ∧ 0 < m ∧ ∀ H', Same H H' → Q (.int (mx m xs)) H'
def sp_check_bytes (K : PySem.W.Frag) (cs : Cs) : Sp := fun vs H Q _ => ∃ (a : Addr) (xs : List Int), vs = [.ref a] ∧ SqL K H a (xs.map V.int) ∧ xs.length ≤ 100000 ∧ Lst H Q (wb (mx MM xs) 4)
def sp_number_bytes (K : PySem.W.Frag) (cs : Cs) : Sp := fun vs H Q _ => ∃ (a : Addr) (ns : List Int), vs = [.ref a] ∧ SqL K H a (ns.map V.int) ∧ InR ns ∧ ns.length ≤ 100 ∧ Lst H Q (bodyB ns)
def sp_pack (K : PySem.W.Frag) (cs : Cs) : Sp := fun vs H Q _ => ∃ (h a : Addr) (hd ns : List Int), vs = [.ref h, .ref a] ∧ SqT K H h (hd.map V.int) ∧ SqL K H a (ns.map V.int) ∧ InR ns ∧ ns.length ≤ 100 ∧ hd.length = 4 ∧ Lst H Q (pk hd ns)
def sp__law_check (K : PySem.W.Frag) (cs : Cs) : Sp := fun vs H Q _ => ∃ (a : Addr) (xs : List Int), vs = [.ref a] ∧ SqL K H a (xs.map V.int) ∧ Lst H Q (wb (mx MM xs) 4)
/-- a DamagedSave flies; all that was tracked stands -/
def Dam (cs : Cs) (H : Hp) (E : XK) (r : Str) : Prop := ∀ d Hf, Same H Hf → Hf d = some (.xd [("place", .str r)]) → E (.ref cs.C_DamagedSave) (some d) Hf
def sp_numbers_of (K : PySem.W.Frag) (cs : Cs) : Sp := fun vs H Q E => ∃ (a : Addr) (xs : List Int), vs = [.ref a] ∧ SqL K H a (xs.map V.int) ∧ xs.length ≤ 10000 ∧ Bys xs ∧ (nums xs = none → Dam cs H E "numbers") ∧ ∀ ns, nums xs = some ns → Lst H Q ns
inductive Out | bad (r : Str) | fine (ns : List Int)
/-- what unpack makes of a list of bytes -/
def Outc (hd xs : List Int) : Out → Prop
  | .bad r => (r = "head" ∧ (xs.length < 8 ∨ xs.take 4 ≠ hd)) ∨ (r = "check" ∧ 8 ≤ xs.length ∧ xs.take 4 = hd ∧ xs.drop (xs.length - 4) ≠ wb (mx MM (xs.take (xs.length - 4))) 4) ∨
    (r = "numbers" ∧ 8 ≤ xs.length ∧ xs.take 4 = hd ∧ xs.drop (xs.length - 4) = wb (mx MM (xs.take (xs.length - 4))) 4 ∧ nums (bodyOf xs) = none)
  | .fine ns => 8 ≤ xs.length ∧ xs.take 4 = hd ∧ xs.drop (xs.length - 4) = wb (mx MM (xs.take (xs.length - 4))) 4 ∧ nums (bodyOf xs) = some ns
def sp_unpack (K : PySem.W.Frag) (cs : Cs) : Sp := fun vs H Q E => ∃ (h a : Addr) (hd xs : List Int) (o : Out), vs = [.ref h, .ref a] ∧ SqT K H h (hd.map V.int) ∧ SqL K H a (xs.map V.int) ∧ hd.length = 4 ∧ xs.length ≤ 10000 ∧ Bys xs ∧ Outc hd xs o ∧
  (∀ r, o = .bad r → Dam cs H E r) ∧ (∀ ns, o = .fine ns → Lst H Q ns)
theorem newO {H H' : Hp} {p : Addr} {o : HO} (h : H p = none) (e : upd H p o = H') : Same H H' ∧ H' p = some o := by subst e; exact ⟨Same.new h, upd_same⟩
theorem ints_at {xs : List Int} {i : Nat} {x : V} (hx : (xs.map V.int)[i]? = some x) : ∃ b, xs[i]? = some b ∧ x = .int b := by
  rw [List.getElem?_map] at hx
  cases e : xs[i]? with
  | none => rw [e] at hx; cases hx
  | some b => rw [e] at hx; cases hx; exact ⟨b, rfl, rfl⟩
theorem every4 {xs : List Int} {k lo i : Nat} (h : xs.length = 4 * k) (hi : i < k) (hlo : lo < 4) : ((List.range k).map fun i => (xs.map V.int).getD (lo + 4 * i) V.non).getD i .non = .int (xs.getD (lo + 4 * i) 0) := by
  rw [List.getD_eq_getElem?_getD, List.getElem?_map, List.getElem?_range hi]
  show (xs.map V.int).getD (lo + 4 * i) V.non = _
  rw [List.getD_eq_getElem?_getD, List.getElem?_map, List.getElem?_eq_getElem (by omega), List.getD_eq_getElem?_getD, List.getElem?_eq_getElem (by omega)]; rfl
theorem take4s {xs : List Int} {k i : Nat} (h : xs.length = 4 * k) (hi : i < k) : xs.take (4 * (i + 1)) = xs.take (4 * i) ++ [xs.getD (0 + 4 * i) 0, xs.getD (1 + 4 * i) 0, xs.getD (2 + 4 * i) 0, xs.getD (3 + 4 * i) 0] := by
  have g : ∀ j, j < xs.length → xs.take (j + 1) = xs.take j ++ [xs.getD j 0] := fun j hj => by
    rw [List.take_add_one, List.getElem?_eq_getElem hj, List.getD_eq_getElem?_getD, List.getElem?_eq_getElem hj]; rfl
  rw [show 4 * (i + 1) = 4 * i + 1 + 1 + 1 + 1 by omega, g _ (by omega), g _ (by omega), g _ (by omega), g _ (by omega)]
  simp [Nat.add_comm]
section
variable {P : Program} {w : World} {K : PySem.W.Frag} {mg : Str → Option Value} {base : Heap} {cs : Cs}
theorem c_mix_fours (D : Def K mg "mix_fours" s_mix_fours ["check", "data", "modulus"]) (T : Tp w K mg cs)  : Cal P w K mg base CX0 1 "mix_fours" (sp_mix_fours K cs) := by
  refine D.ok sc_mix_fours (fun vs H Q E h => ?_) (fun f cdv A outer s H vs Q E hr h => ?_)
  · obtain ⟨a, xs, c, m, k, rfl, _⟩ := h; rfl
  · obtain ⟨a, xs, c, m, k, rfl, hS, hk, hm, q⟩ := h
    refine ⟨_, (pss_cons (ps_for PassesOwn.never rfl (pi_zip4 (by rfl) T.m_zip (pa_cons (pe_pick4 (lo := 0) (by decide) (pv 1)) (pa_cons (pe_pick4 (lo := 1) (by decide) (pv 1)) (pa_cons (pe_pick4 (lo := 2) (by decide) (pv 1)) (pa_cons (pe_pick4 (lo := 3) (by decide) (pv 1)) pa_nil))))) (pg_tup (by rfl) (pgs_cons (pg_name (i := 3) sc_mix_fours.nd rfl (by first | exact Or.inl rfl | exact Or.inr rfl)) (pgs_cons (pg_name (i := 4) sc_mix_fours.nd rfl (by first | exact Or.inl rfl | exact Or.inr rfl)) (pgs_cons (pg_name (i := 5) sc_mix_fours.nd rfl (by first | exact Or.inl rfl | exact Or.inr rfl)) (pgs_cons (pg_name (i := 6) sc_mix_fours.nd rfl (by first | exact Or.inl rfl | exact Or.inr rfl)) pgs_nil))))) (pss_cons (ps_set (i := 7) sc_mix_fours.nd rfl (by first | exact Or.inl rfl | exact Or.inr rfl) (pe_op op_add (pe_op op_mul (pe_op op_add (pe_op op_mul (pe_op op_add (pe_op op_mul (pv 3) pe_int) (pv 4)) pe_int) (pv 5)) pe_int) (pv 6)))
      (pss_one (ps_set (i := 0) sc_mix_fours.nd rfl (by first | exact Or.inl rfl | exact Or.inr rfl) (pe_op op_mod (pe_op op_add (pe_op op_add (pe_op op_mul (pv 0) pe_int) (pv 7)) pe_int) (pv 2))))))
      (pss_one (ps_ret (pv 0)))), ?_⟩
    have hk2 : (xs.map V.int).length = 4 * k := by rw [List.length_map]; exact hk
    refine ⟨_, rfl, a, _, k, rfl, hS, hk2, fun p1 hp1 => ?_⟩
    generalize xH1 : upd H p1 _ = H1
    obtain ⟨s1, k1⟩ := newO hp1 xH1
    clear xH1
    refine ⟨_, rfl, a, _, k, rfl, s1.seq hS, hk2, fun p2 hp2 => ?_⟩
    generalize xH2 : upd H1 p2 _ = H2
    obtain ⟨s2, k2⟩ := newO hp2 xH2
    clear xH2
    refine ⟨_, rfl, a, _, k, rfl, (s1.trans s2).seq hS, hk2, fun p3 hp3 => ?_⟩
    generalize xH3 : upd H2 p3 _ = H3
    obtain ⟨s3, k3⟩ := newO hp3 xH3
    clear xH3
    refine ⟨_, rfl, a, _, k, rfl, (s1.trans (s2.trans s3)).seq hS, hk2, fun p4 hp4 => ?_⟩
    generalize xH4 : upd H3 p4 _ = H4
    obtain ⟨s4, k4⟩ := newO hp4 xH4
    clear xH4
    have ll : ∀ lo, ((List.range k).map fun i => (xs.map V.int).getD (lo + 4 * i) V.non).length = k := fun lo => by rw [List.length_map, List.length_range]
    have K1 := s4 _ _ (s3 _ _ (s2 _ _ k1))
    have K2 := s4 _ _ (s3 _ _ k2)
    have K3 := s4 _ _ k3
    refine ⟨p1, p2, p3, p4, _, _, _, _, rfl, SqL.of K1, SqL.of K2, SqL.of K3, SqL.of k4, ?_⟩
    refine for_zip4 (ll 0) (ll 1) (ll 2) (ll 3) (fun i σ G => Same H4 G ∧ ∃ o3 o4 o5 o6 o7, σ = [some (.int (mxs c m (xs.take (4 * i)))), some (.ref a), some (.int m), o3, o4, o5, o6, o7]) ⟨Same.refl _, _, _, _, _, _, rfl⟩ (fun i σ G h => ⟨SqL.of (h.1 _ _ K1), SqL.of (h.1 _ _ K2), SqL.of (h.1 _ _ K3), SqL.of (h.1 _ _ k4)⟩) ?_ ?_
    · rintro i T _ G hi ⟨sG, o3, o4, o5, o6, o7, rfl⟩ hT
      rw [every4 hk hi (by decide), every4 hk hi (by decide), every4 hk hi (by decide), every4 hk hi (by decide)]
      generalize x5 : upd G T _ = G2
      obtain ⟨s5, k5⟩ := newO hT x5
      clear x5
      refine ⟨T, _, rfl, SqT.of k5, rfl, ?_⟩
      walk_at "go"
      rw [take4s hk hi, mxs_app, mxs_four]
      exact ⟨sG.trans s5, _, _, _, _, _, rfl⟩
    · rintro _ G ⟨sG, o3, o4, o5, o6, o7, rfl⟩
      rw [show xs.take (4 * k) = xs from List.take_of_length_le (by omega)]
      walk_at "go"
      exact q _ (s1.trans (s2.trans (s3.trans (s4.trans sG))))
theorem c_mix_behind (D : Def K mg "mix_behind" s_mix_behind ["check", "data", "modulus"]) (T : Tp w K mg cs) (c_mix_fours : Cal P w K mg base CX0 1 "mix_fours" (sp_mix_fours K cs)) : Cal P w K mg base CX0 2 "mix_behind" (sp_mix_behind K cs) := by
  refine D.ok sc_mix_behind (fun vs H Q E h => ?_) (fun f cdv A outer s H vs Q E hr h => ?_)
  · obtain ⟨a, xs, c, m, rfl, _⟩ := h; rfl
  · obtain ⟨a, xs, c, m, rfl, hS, hl, hm, q⟩ := h
    refine ⟨_, (pss_cons (ps_set (i := 3) sc_mix_behind.nd rfl (by first | exact Or.inl rfl | exact Or.inr rfl) (pv 1))
      (C8.pss_cut (ps_if (pt_cmpR op_ge (pe_callB call_len_seq (by rfl) T.m_len PySem.boot_len (pa_cons (pv 1) pa_nil)) (pe_gint (by rfl) T.i_MANY_BYTES) (by first | rfl | exact nomark _)) (pss_cons (ps_set (i := 5) sc_mix_behind.nd rfl (by first | exact Or.inl rfl | exact Or.inr rfl) (pe_op op_sub (pe_callB call_len_seq (by rfl) T.m_len PySem.boot_len (pa_cons (pv 1) pa_nil)) (pe_op op_mod (pe_callB call_len_seq (by rfl) T.m_len PySem.boot_len (pa_cons (pv 1) pa_nil)) pe_int)))
      (pss_cons (ps_set (i := 0) sc_mix_behind.nd rfl (by first | exact Or.inl rfl | exact Or.inr rfl) (pe_c c_mix_fours hr (by decide) (by rfl) (pa_cons (pv 0) (pa_cons (pe_slice sl_list (pv 1) po_none (po_some (pv 5))) (pa_cons (pv 2) pa_nil)))))
      (pss_one (ps_set (i := 3) sc_mix_behind.nd rfl (by first | exact Or.inl rfl | exact Or.inr rfl) (pe_slice sl_list (pv 1) (po_some (pv 5)) po_none))))) pss_nil)
      (pss_cons (ps_for PassesOwn.never rfl (pi_list (pv 3)) (pg_name (i := 4) sc_mix_behind.nd rfl (by first | exact Or.inl rfl | exact Or.inr rfl)) (pss_one (ps_set (i := 0) sc_mix_behind.nd rfl (by first | exact Or.inl rfl | exact Or.inr rfl) (pe_op op_mod (pe_op op_add (pe_op op_add (pe_op op_mul (pv 0) pe_int) (pv 4)) pe_int) (pv 2)))))
      (pss_one (ps_ret (pv 0)))))), ?_⟩
    have hxl : (xs.map V.int).length = xs.length := List.length_map _
    refine ⟨_, rfl, ?_⟩
    refine ⟨fun σ G => Same H G ∧ ∃ (c' : Int) (p : Addr) (ys : List Int) (o4 : Option V), SqL K G p (ys.map V.int) ∧ mxs c' m ys = mxs c m xs ∧ σ = [some (.int c'), some (.ref a), some (.int m), some (.ref p), none, o4], ?_, ?_⟩
    · refine ⟨_, rfl, a, _, rfl, .inl hS, ?_⟩
      rw [hxl]
      walk_at "go"
      refine ite2 (fun hc => ?_) (fun hc => ?_)
      · refine ⟨_, rfl, a, _, rfl, .inl hS, ?_⟩
        walk_at "go"
        have en : ((xs.map V.int).length : Int) - ((xs.map V.int).length : Int) % 4 = ((xs.length - xs.length % 4 : Nat) : Int) := by rw [hxl]; omega
        have hsp : (xs.take (xs.length - xs.length % 4)).length = 4 * (xs.length / 4) := by rw [List.length_take]; omega
        refine ⟨a, _, rfl, hS, fun p hp => ?_⟩
        rw [en, cut_to, ← List.map_take]
        generalize x1 : upd H p _ = H1
        obtain ⟨s1, k1⟩ := newO hp x1
        clear x1
        refine ⟨_, rfl, p, _, c, m, _, rfl, SqL.of k1, hsp, hm, fun H2 s2 => ?_⟩
        have s12 := s1.trans s2
        refine ⟨_, rfl, _, rfl, _, rfl, a, _, rfl, s12.seq hS, fun p2 hp2 => ?_⟩
        rw [en, cut_from, ← List.map_drop]
        generalize x3 : upd H2 p2 _ = H3
        obtain ⟨s3, k3⟩ := newO hp2 x3
        clear x3
        refine ⟨s12.trans s3, _, p2, _, _, SqL.of k3, ?_, rfl⟩
        rw [← mxs_app, List.take_append_drop]
      · exact ⟨Same.refl _, c, a, xs, _, hS, rfl, rfl⟩
    rintro _ G ⟨sG, c', p, ys, o4, hp, e, rfl⟩
    refine ⟨_, rfl, p, rfl, ⟨_, hp⟩, for_listD (xs := ys.map V.int) (fun i σ H2 => G = H2 ∧ ∃ o5, σ = [some (.int (mxs c' m (ys.take i))), some (.ref a), some (.int m), some (.ref p), o5, o4]) ⟨rfl, _, rfl⟩ (fun i σ H2 _ h => by rw [← h.1]; exact hp) ?_ ?_⟩
    · rintro i x _ _ hx ⟨rfl, o5, rfl⟩
      obtain ⟨b, hb, rfl⟩ := ints_at hx
      walk_at "go"
      rw [List.take_add_one, hb]
      exact ⟨_, by rw [show ys.take i ++ (some b).toList = ys.take i ++ [b] from rfl, mxs_snoc]; rfl⟩
    · rintro _ _ ⟨rfl, o5, rfl⟩
      rw [List.length_map, List.take_length, e]
      walk_at "go"
      exact q _ sG
theorem c_mix (D : Def K mg "mix" s_mix ["data", "modulus"]) (T : Tp w K mg cs) (c_mix_behind : Cal P w K mg base CX0 2 "mix_behind" (sp_mix_behind K cs)) : Cal P w K mg base CX0 3 "mix" (sp_mix K cs) := by
  refine D.ok sc_mix (fun vs H Q E h => ?_) (fun f cdv A outer s H vs Q E hr h => ?_)
  · obtain ⟨a, xs, m, rfl, _⟩ := h; rfl
  · obtain ⟨a, xs, m, rfl, hS, hl, hm, q⟩ := h
    refine ⟨_, (pss_one (ps_ret (pe_c c_mix_behind hr (by decide) (by rfl) (pa_cons pe_int (pa_cons (pv 0) (pa_cons (pv 1) pa_nil)))))), ?_⟩
    walk_at "go"
    exact ⟨a, xs, 0, m, rfl, hS, hl, hm, q⟩
theorem c_check_bytes (D : Def K mg "check_bytes" s_check_bytes ["data"]) (T : Tp w K mg cs) (c_word_bytes : Cal P w K mg base CX0 1 "word_bytes" (sp_word_bytes K cs)) (c_mix : Cal P w K mg base CX0 3 "mix" (sp_mix K cs)) : Cal P w K mg base CX0 4 "check_bytes" (sp_check_bytes K cs) := by
  refine D.ok sc_check_bytes (fun vs H Q E h => ?_) (fun f cdv A outer s H vs Q E hr h => ?_)
  · obtain ⟨a, xs, rfl, _⟩ := h; rfl
  · obtain ⟨a, xs, rfl, hS, hl, q⟩ := h
    refine ⟨_, (pss_one (ps_ret (pe_c c_word_bytes hr (by decide) (by rfl) (pa_cons (pe_c c_mix hr (by decide) (by rfl) (pa_cons (pv 0) (pa_cons (pe_gint (by rfl) T.i_CHECK_MODULUS) pa_nil))) (pa_cons (pe_gint (by rfl) T.i_CHECK_BYTES) pa_nil))))), ?_⟩
    refine ⟨_, rfl, a, xs, MM, rfl, hS, hl, by decide, fun G sG => ?_⟩
    refine ⟨_, 4, rfl, by decide, fun p H' s hp k => ?_⟩
    exact q p H' (sG.trans s) (none_of sG hp) k
theorem c_number_bytes (D : Def K mg "number_bytes" s_number_bytes ["numbers"]) (T : Tp w K mg cs)  : Cal P w K mg base CX0 1 "number_bytes" (sp_number_bytes K cs) := by
  refine D.ok sc_number_bytes (fun vs H Q E h => ?_) (fun f cdv A outer s H vs Q E hr h => ?_)
  · obtain ⟨a, ns, rfl, _⟩ := h; rfl
  · obtain ⟨a, ns, rfl, hS, hI, hn, q⟩ := h
    refine ⟨_, (pss_cons (ps_set (i := 1) sc_number_bytes.nd rfl (by first | exact Or.inl rfl | exact Or.inr rfl) (pe_lst pa_nil))
      (pss_cons (ps_for PassesOwn.never rfl (pi_list (pv 0)) (pg_name (i := 2) sc_number_bytes.nd rfl (by first | exact Or.inl rfl | exact Or.inr rfl)) (pss_cons (ps_while PassesOwn.never (pt_cmpR op_ge (pv 2) pe_int (by first | rfl | exact nomark _)) (pss_cons (ps_expr (pe_bm PySem.F.plainAttrs_list PySem.F.slot_list_append PySem.F.type_list_append mt_append (pv 1) (pa_cons (pe_op op_add (pe_op op_and (pv 2) pe_int) pe_int) pa_nil)))
      (pss_one (ps_set (i := 2) sc_number_bytes.nd rfl (by first | exact Or.inl rfl | exact Or.inr rfl) (pe_op op_shr (pv 2) pe_int)))))
      (pss_one (ps_expr (pe_bm PySem.F.plainAttrs_list PySem.F.slot_list_append PySem.F.type_list_append mt_append (pv 1) (pa_cons (pv 2) pa_nil))))))
      (pss_one (ps_ret (pv 1))))), ?_⟩
    walk_at "go"
    intro p hp
    generalize x1 : upd H p _ = H1
    obtain ⟨s1, k1⟩ : Same H H1 ∧ H1 p = some (.lst (([] : List Int).map V.int)) := by subst x1; exact ⟨Same.new hp, upd_same⟩
    refine ⟨_, rfl, a, rfl, ⟨_, s1.seq hS⟩, for_listD (xs := ns.map V.int) (fun i σ H2 => Same H H2 ∧ H2 p = some (.lst ((bodyB (ns.take i)).map V.int)) ∧ ∃ o, σ = [some (.ref a), some (.ref p), o]) ⟨s1, k1, _, rfl⟩ (fun i σ H2 _ h => h.1.seq hS) ?_ ?_⟩
    · rintro i x _ H2 hx ⟨s2, k2, o, rfl⟩
      obtain ⟨n, hb, rfl⟩ := ints_at hx
      have hbI := hI n (List.mem_of_getElem? hb)
      have hbl := body_len (ns := ns.take i) (fun m hm => hI m (List.mem_of_mem_take hm))
      have hwl := wu_len 60 n hbI.1 hbI.2
      simp only [show max 60 1 = 60 from rfl] at hwl
      have htl : (ns.take i).length ≤ 100 := by rw [List.length_take]; omega
      have e0 : bodyB (ns.take (i + 1)) = bodyB (ns.take i) ++ wu n := by
        rw [List.take_add_one, hb]
        show (ns.take i ++ [n]).flatMap wu = _
        rw [List.flatMap_append]; simp [bodyB]
      rw [e0]
      generalize bodyB (ns.take i) = pre at k2 hbl
      refine while_ev (fun σ G => ∃ (m : Int) (acc : List Int), σ = [some (.ref a), some (.ref p), some (.int m)] ∧ 0 ≤ m ∧ acc ++ wu m = wu n ∧ Same H G ∧ G p = some (.lst ((pre ++ acc).map V.int)))
        (fun σ _ => match σ with | [_, _, some (.int m)] => m.toNat | _ => 0) ⟨n, [], rfl, hbI.1, rfl, s2, by rw [List.append_nil]; exact k2⟩ ?_
      rintro _ G ⟨m, acc, rfl, hm, ha, sG, kG⟩
      refine ⟨decide (128 ≤ m), fun Q2 q2 => by walk_at "go"; exact q2, fun c => ?_, fun c => ?_⟩
      · have c' : 128 ≤ m := of_decide_eq_true c
        have e1 : wu m = (128 + m % 128) :: wu (m / 128) := by rw [wu, dif_neg (by omega)]
        have hla : acc.length < 60 := by rw [← ha, List.length_append, e1, List.length_cons] at hwl; omega
        refine ⟨_, rfl, .inl ⟨rfl, _, SqL.of kG⟩, ?_⟩
        walk_at "go"
        refine ⟨_, _, _, rfl, rfl, kG, (by rw [List.length_map, List.length_append]; exact small64' (by omega)), ?_⟩
        walk_at "go"
        rw [show Builtin.bitAnd m 127 = m % 128 from PySem.W.kbt_mask m 7]
        refine ⟨⟨m / 128, acc ++ [128 + m % 128], rfl, by omega, by rw [List.append_assoc]; show acc ++ ((128 + m % 128) :: wu (m / 128)) = _; rw [← e1]; exact ha, fun b o e => ?_, ?_⟩, ?_⟩
        · rw [upd_ne (ne_of_none e hp)]; exact sG _ _ e
        · rw [upd_same, ← List.append_assoc, List.map_append (l₁ := pre ++ acc), Int.add_comm 128]; rfl
        · show (m / 128).toNat < m.toNat
          omega
      · have c' : ¬ 128 ≤ m := of_decide_eq_false c
        have e1 : wu m = [m] := by rw [wu, dif_pos (by omega)]
        have hla : acc.length < 60 := by rw [← ha, List.length_append, e1, List.length_singleton] at hwl; omega
        refine ⟨_, rfl, .inl ⟨rfl, _, SqL.of kG⟩, ?_⟩
        walk_at "go"
        refine ⟨_, _, _, rfl, rfl, kG, (by rw [List.length_map, List.length_append]; exact small64' (by omega)), ?_⟩
        refine ⟨fun b o e => ?_, ?_, _, rfl⟩
        · rw [upd_ne (ne_of_none e hp)]; exact sG _ _ e
        · rw [upd_same, ← ha, e1, ← List.append_assoc, List.map_append (l₁ := pre ++ acc)]; rfl
    · rintro _ H2 ⟨s2, k2, o, rfl⟩
      rw [List.length_map, List.take_length] at k2
      walk_at "go"
      exact q p _ s2 hp k2
theorem c_pack (D : Def K mg "pack" s_pack ["head", "numbers"]) (T : Tp w K mg cs) (c_number_bytes : Cal P w K mg base CX0 1 "number_bytes" (sp_number_bytes K cs)) (c_check_bytes : Cal P w K mg base CX0 4 "check_bytes" (sp_check_bytes K cs)) : Cal P w K mg base CX0 5 "pack" (sp_pack K cs) := by
  refine D.ok sc_pack (fun vs H Q E h => ?_) (fun f cdv A outer s H vs Q E hr h => ?_)
  · obtain ⟨h, a, hd, ns, rfl, _⟩ := h; rfl
  · obtain ⟨h, a, hd, ns, rfl, hT, hS, hI, hn, h4, q⟩ := h
    refine ⟨_, (pss_cons (ps_set (i := 2) sc_pack.nd rfl (by first | exact Or.inl rfl | exact Or.inr rfl) (pe_op op_cat (pe_callTy call_list_of (by rfl) T.m_list (by decide +kernel) (pa_cons (pv 0) pa_nil)) (pe_c c_number_bytes hr (by decide) (by rfl) (pa_cons (pv 1) pa_nil))))
      (pss_one (ps_ret (pe_op op_cat (pv 2) (pe_c c_check_bytes hr (by decide) (by rfl) (pa_cons (pv 2) pa_nil)))))), ?_⟩
    have hbl := body_len hI
    refine ⟨_, rfl, h, _, rfl, .inr hT, fun p hp => ?_⟩
    generalize x1 : upd H p _ = H1
    obtain ⟨s1, k1⟩ := newO hp x1
    clear x1
    refine ⟨_, rfl, a, ns, rfl, s1.seq hS, hI, hn, fun p2 H2 s2 hp2 k2 => ?_⟩
    refine ⟨p, p2, _, _, rfl, rfl, s2 _ _ k1, k2, small64 (by rw [List.length_map, List.length_map]; omega), fun p3 hp3 => ?_⟩
    generalize x3 : upd H2 p3 _ = H3
    obtain ⟨s3, k3⟩ := newO hp3 x3
    clear x3
    rw [← List.map_append] at k3
    have s13 := s1.trans (s2.trans s3)
    refine ⟨_, rfl, _, rfl, p3, _, rfl, SqL.of k3, by rw [List.length_append]; omega, fun p4 H4 s4 hp4 k4 => ?_⟩
    refine ⟨p3, p4, _, _, rfl, rfl, s4 _ _ k3, k4, small64 (by rw [List.length_map, List.length_map, List.length_append, wb_len]; omega), fun p5 hp5 => ?_⟩
    have s14 := s13.trans s4
    refine q p5 _ (s14.trans (Same.new hp5)) (none_of s14 hp5) ?_
    rw [upd_same, ← List.map_append]; rfl
theorem c_numbers_of (D : Def K mg "numbers_of" s_numbers_of ["data"]) (T : Tp w K mg cs)  : Cal P w K mg base (L2.CX P w) 3 "numbers_of" (sp_numbers_of K cs) := by
  refine D.okX sc_numbers_of (fun vs H Q E h => ?_) (fun f cdv A outer s H vs Q E hr h => ?_)
  · obtain ⟨a, xs, rfl, _⟩ := h; rfl
  · obtain ⟨a, xs, rfl, hS, hl, hB, qb, qf⟩ := h
    refine ⟨_, (pss_cons (ps_set (i := 1) sc_numbers_of.nd rfl (by first | exact Or.inl rfl | exact Or.inr rfl) (pe_lst pa_nil))
      (pss_cons (ps_set (i := 2) sc_numbers_of.nd rfl (by first | exact Or.inl rfl | exact Or.inr rfl) pe_int)
      (pss_cons (ps_set (i := 3) sc_numbers_of.nd rfl (by first | exact Or.inl rfl | exact Or.inr rfl) pe_int)
      (pss_cons (ps_for (passes_of rfl) rfl (pi_list (pv 0)) (pg_name (i := 4) sc_numbers_of.nd rfl (by first | exact Or.inl rfl | exact Or.inr rfl)) (pss_one (ps_if (pt_cmpR op_ge (pv 4) pe_int (by first | rfl | exact nomark _)) (pss_cons (ps_set (i := 2) sc_numbers_of.nd rfl (by first | exact Or.inl rfl | exact Or.inr rfl) (pe_op op_add (pv 2) (pe_op op_shlS (pe_op op_sub (pv 4) pe_int) (pv 3))))
      (pss_one (ps_set (i := 3) sc_numbers_of.nd rfl (by first | exact Or.inl rfl | exact Or.inr rfl) (pe_op op_add (pv 3) pe_int)))) (pss_one (ps_if (pt_cmpR op_eq (pv 3) pe_int (by first | rfl | exact nomark _)) (pss_one (ps_expr (pe_bm PySem.F.plainAttrs_list PySem.F.slot_list_append PySem.F.type_list_append mt_append (pv 1) (pa_cons (pv 4) pa_nil)))) (pss_one (ps_if (pt_cmpR op_eq (pv 4) pe_int (by first | rfl | exact nomark _)) (pss_one (ps_raise rfl (takes_of rfl rfl rfl rfl) (pmk_oex T.e_DamagedSave.T T.iC_DamagedSave T.tI_DamagedSave (in_DamagedSave T) (hr.mono (by decide)) T.b_DamagedSave .nil pass0 (by rfl) T.e_DamagedSave.g (pa_cons pe_str pa_nil)))) (pss_cons (ps_expr (pe_bm PySem.F.plainAttrs_list PySem.F.slot_list_append PySem.F.type_list_append mt_append (pv 1) (pa_cons (pe_op op_add (pv 2) (pe_op op_shlS (pv 4) (pv 3))) pa_nil)))
      (pss_cons (ps_set (i := 2) sc_numbers_of.nd rfl (by first | exact Or.inl rfl | exact Or.inr rfl) pe_int)
      (pss_one (ps_set (i := 3) sc_numbers_of.nd rfl (by first | exact Or.inl rfl | exact Or.inr rfl) pe_int)))))))))))
      (pss_cons (ps_if (pt_cmpR op_gt (pv 3) pe_int (by first | rfl | exact nomark _)) (pss_one (ps_raise rfl (takes_of rfl rfl rfl rfl) (pmk_oex T.e_DamagedSave.T T.iC_DamagedSave T.tI_DamagedSave (in_DamagedSave T) (hr.mono (by decide)) T.b_DamagedSave .nil pass0 (by rfl) T.e_DamagedSave.g (pa_cons pe_str pa_nil)))) pss_nil)
      (pss_one (ps_ret (pv 1)))))))), ?_⟩
    walk_at "go"
    intro p hp
    generalize x1 : upd H p _ = H1
    obtain ⟨s1, k1⟩ : Same H H1 ∧ H1 p = some (.lst (([] : List Int).map V.int)) := by subst x1; exact ⟨Same.new hp, upd_same⟩
    clear x1
    walk_at "go"
    refine ⟨⟨_, s1.seq hS⟩, for_listD (xs := xs.map V.int) (fun i σ H2 => Same H H2 ∧ ∃ (ns g : List Int) (o : Option V), (xs.take i).foldl nst (some ([], [])) = some (ns, g) ∧ g.length ≤ i ∧ ns.length ≤ i ∧ Grp g ∧ H2 p = some (.lst (ns.map V.int)) ∧ σ = [some (.ref a), some (.ref p), some (.int (joinN g)), some (.int (7 * (g.length : Int))), o]) ⟨s1, [], [], _, rfl, Nat.le_refl _, Nat.le_refl _, (fun _ z => nomatch z), k1, rfl⟩ (fun i σ H2 _ h => h.1.seq hS) ?_ ?_⟩
    · rintro i x _ H2 hx ⟨s2, ns, g, o, e, hg, hn, hG, k2, rfl⟩
      obtain ⟨b, hb, rfl⟩ := ints_at hx
      have hbB := hB b (List.mem_of_getElem? hb)
      have hi : i < xs.length := (List.getElem?_eq_some_iff.mp hb).1
      have estep : (xs.take (i + 1)).foldl nst (some ([], [])) = nst (some (ns, g)) b := by rw [List.take_add_one, hb, List.foldl_append, e]; rfl
      have hsh : ∀ z : Int, 0 ≤ z → z ≤ 255 → z.natAbs < 2 ^ 1000 := fun z h0 h1 => nat_small (by omega)
      have hpw : ((2 : Int) ^ (7 * (g.length : Int)).toNat) = 128 ^ g.length := by
        rw [show (7 * (g.length : Int)).toNat = 7 * g.length by omega, Int.pow_mul]; rfl
      walk_at "go"
      refine ite2 (fun hc => ?_) (fun hc => ?_)
      · have c' : 128 ≤ b := of_decide_eq_true hc
        have es : nst (some (ns, g)) b = some (ns, g ++ [b % 128]) := if_pos c'
        rw [es] at estep
        have e1 : joinN (g ++ [b % 128]) = joinN g + (b - 128) * 2 ^ (7 * (g.length : Int)).toNat := by rw [joinN_snoc, hpw, show b % 128 = b - 128 by omega]
        have e2 : (7 * ((g ++ [b % 128]).length : Int)) = 7 * (g.length : Int) + 7 := by rw [List.length_append, List.length_singleton]; omega
        walk_at "go"
        refine ⟨⟨hsh _ (by omega) (by omega), by omega, by omega⟩, ?_⟩
        walk_at "go"
        refine ⟨ns, g ++ [b % 128], some (.int b), estep, by rw [List.length_append, List.length_singleton]; omega, by omega, fun y hy => ?_, k2, by rw [e1, e2]; rfl⟩
        rcases List.mem_append.mp hy with hy | hy
        · exact hG y hy
        · rw [List.mem_singleton] at hy; omega
      have c' : ¬ 128 ≤ b := of_decide_eq_false (Bool.eq_false_iff.mpr hc)
      walk_at "go"
      by_cases hg0 : g = []
      · subst hg0
        have es : nst (some (ns, [])) b = some (ns ++ [joinN ([] ++ [b])], []) := (if_neg c').trans (if_neg fun z => z.2 rfl)
        rw [es] at estep
        refine ifEq rfl ?_
        refine ⟨_, rfl, .inl ⟨rfl, _, SqL.of k2⟩, ?_⟩
        walk_at "go"
        refine ⟨_, _, _, rfl, rfl, k2, (by rw [List.length_map]; exact small64' (by omega)), ?_⟩
        walk_at "go"
        refine ⟨fun z o2 e2 => ?_, ns ++ [joinN ([] ++ [b])], [], some (.int b), estep, Nat.zero_le _, by rw [List.length_append, List.length_singleton]; omega, (fun _ z => nomatch z), ?_, rfl⟩
        · rw [upd_ne (ne_of_none e2 hp)]; exact s2 _ _ e2
        · rw [upd_same, List.map_append, List.nil_append, show joinN [b] = b from by show 0 * 128 + b = b; omega]; rfl
      · have hgl : 0 < g.length := List.length_pos_iff.mpr hg0
        refine ifEqN (by omega) ?_
        walk_at "go"
        by_cases hb0 : b = 0
        · refine ifEq hb0 ?_
          have es : nst (some (ns, g)) b = none := (if_neg c').trans (if_pos ⟨hb0, hg0⟩)
          have hno : nums xs = none := by
            unfold nums
            rw [← List.take_append_drop (i + 1) xs, List.foldl_append, estep, es, nst_none]
          exact fly1 fun d Hf s3 k => qb hno d Hf (s2.trans s3) k
        · refine ifEqN hb0 ?_
          have es : nst (some (ns, g)) b = some (ns ++ [joinN (g ++ [b])], []) := (if_neg c').trans (if_neg fun z => hb0 z.1)
          rw [es] at estep
          have e1 : joinN (g ++ [b]) = joinN g + b * 2 ^ (7 * (g.length : Int)).toNat := by rw [joinN_snoc, hpw]
          refine ⟨_, rfl, .inl ⟨rfl, _, SqL.of k2⟩, ?_⟩
          walk_at "go"
          refine ⟨⟨hsh _ (by omega) (by omega), by omega, by omega⟩, ?_⟩
          walk_at "go"
          refine ⟨_, _, _, rfl, rfl, k2, (by rw [List.length_map]; exact small64' (by omega)), ?_⟩
          walk_at "go"
          refine ⟨fun z o2 e2 => ?_, ns ++ [joinN (g ++ [b])], [], some (.int b), estep, Nat.zero_le _, by rw [List.length_append, List.length_singleton]; omega, (fun _ z => nomatch z), ?_, rfl⟩
          · rw [upd_ne (ne_of_none e2 hp)]; exact s2 _ _ e2
          · rw [upd_same, List.map_append, e1]; rfl
    · rintro _ H2 ⟨s2, ns, g, o, e, hg, hn, hG, k2, rfl⟩
      rw [List.length_map, List.take_length] at e
      walk_at "go"
      refine ite2 (fun hc => ?_) (fun hc => ?_)
      · have hc' : (0 : Int) < 7 * (g.length : Int) := of_decide_eq_true hc
        have hno : nums xs = none := by
          unfold nums
          rw [e]
          cases g with
          | nil => exact absurd hc' (by decide)
          | cons x r => rfl
        exact fly1 fun d Hf s3 k => qb hno d Hf (s2.trans s3) k
      · have hc' : ¬ (0 : Int) < 7 * (g.length : Int) := of_decide_eq_false (Bool.eq_false_iff.mpr hc)
        have hg0 : g = [] := List.eq_nil_of_length_eq_zero (by omega)
        subst hg0
        walk_at "go"
        exact qf ns (by unfold nums; rw [e]) p H2 s2 hp k2
theorem c_unpack (D : Def K mg "unpack" s_unpack ["head", "data"]) (T : Tp w K mg cs) (c_numbers_of : Cal P w K mg base (L2.CX P w) 3 "numbers_of" (sp_numbers_of K cs)) (c_check_bytes : Cal P w K mg base CX0 4 "check_bytes" (sp_check_bytes K cs)) : Cal P w K mg base (L2.CX P w) 5 "unpack" (sp_unpack K cs) := by
  refine D.okX sc_unpack (fun vs H Q E h => ?_) (fun f cdv A outer s H vs Q E hr h => ?_)
  · obtain ⟨h, a, hd, xs, o, rfl, _⟩ := h; rfl
  · obtain ⟨h, a, hd, xs, o, rfl, hT, hS, h4, hl, hB, hO, qb, qf⟩ := h
    refine ⟨_, (pss_cons (ps_set (i := 2) sc_unpack.nd rfl (by first | exact Or.inl rfl | exact Or.inr rfl) (pe_op op_sub (pe_callB call_len_seq (by rfl) T.m_len PySem.boot_len (pa_cons (pv 1) pa_nil)) (pe_gint (by rfl) T.i_CHECK_BYTES)))
      (C8.pss_cut (ps_if (PW.pt (pw_or (pt_cmpR op_lt (pv 2) (pe_callB call_len_seq (by rfl) T.m_len PySem.boot_len (pa_cons (pv 0) pa_nil)) (by first | rfl | exact nomark _)) (pw_or1 (pt_cmpR (op_neD (hu64 hr)) (pe_slice sl_list (pv 1) po_none (po_some (pe_callB call_len_seq (by rfl) T.m_len PySem.boot_len (pa_cons (pv 0) pa_nil)))) (pe_callTy call_list_of (by rfl) T.m_list (by decide +kernel) (pa_cons (pv 0) pa_nil)) (by first | rfl | exact nomark _))))) (pss_one (ps_raise rfl (takes_of rfl rfl rfl rfl) (pmk_oex T.e_DamagedSave.T T.iC_DamagedSave T.tI_DamagedSave (in_DamagedSave T) (hr.mono (by decide)) T.b_DamagedSave .nil pass0 (by rfl) T.e_DamagedSave.g (pa_cons pe_str pa_nil)))) pss_nil)
      (C8.pss_cut (ps_if (pt_cmpR (op_neD (hu64 hr)) (pe_slice sl_list (pv 1) (po_some (pv 2)) po_none) (pe_c c_check_bytes hr (by decide) (by rfl) (pa_cons (pe_slice sl_list (pv 1) po_none (po_some (pv 2))) pa_nil)) (by first | rfl | exact nomark _)) (pss_one (ps_raise rfl (takes_of rfl rfl rfl rfl) (pmk_oex T.e_DamagedSave.T T.iC_DamagedSave T.tI_DamagedSave (in_DamagedSave T) (hr.mono (by decide)) T.b_DamagedSave .nil pass0 (by rfl) T.e_DamagedSave.g (pa_cons pe_str pa_nil)))) pss_nil)
      (pss_one (ps_ret (pe_cE c_numbers_of hr (by decide) (passes_call (takes_of rfl rfl rfl rfl) (fun _ _ _ _ h => h)) (by rfl) (pa_cons (pe_slice sl_list (pv 1) (po_some (pe_callB call_len_seq (by rfl) T.m_len PySem.boot_len (pa_cons (pv 0) pa_nil))) (po_some (pv 2))) pa_nil))))))), ?_⟩
    have hxS : (xs.map V.int).length = xs.length := List.length_map _
    have hhS : (hd.map V.int).length = 4 := by rw [List.length_map, h4]
    refine ⟨_, rfl, a, _, rfl, .inl hS, ?_⟩
    walk_at "go"
    rw [hxS]
    refine ⟨fun σ H2 => Same H H2 ∧ 8 ≤ xs.length ∧ xs.take 4 = hd ∧ σ = [some (.ref h), some (.ref a), some (.int ((xs.length - 4 : Nat) : Int))], ?_, ?_⟩
    · refine ⟨_, rfl, _, rfl, h, _, rfl, .inr hT, ?_⟩
      rw [hhS]
      walk_at "go"
      by_cases h8 : xs.length < 8
      · rw [show decide ((xs.length : Int) - 4 < ((4 : Nat) : Int)) = true from decide_eq_true (by omega)]
        have ho : o = .bad "head" := by
          cases o with
          | bad r =>
            rcases hO with ⟨rfl, _⟩ | ⟨_, z, _⟩ | ⟨_, z, _⟩
            · rfl
            · omega
            · omega
          | fine ns => exact absurd hO.1 (by omega)
        exact fly1 fun d Hf s3 k => qb _ ho d Hf s3 k
      rw [show decide ((xs.length : Int) - 4 < ((4 : Nat) : Int)) = false from decide_eq_false (by omega)]
      refine iteF ?_
      refine ⟨_, rfl, _, rfl, h, _, rfl, .inr hT, ?_⟩
      rw [hhS]
      walk_at "go"
      refine ⟨a, _, rfl, hS, fun p1 hp1 => ?_⟩
      rw [cut_to, ← List.map_take]
      generalize x1 : upd H p1 _ = H1
      obtain ⟨s1, k1⟩ := newO hp1 x1
      refine ⟨_, rfl, h, _, rfl, .inr (sqT_same s1 hT), fun p2 hp2 => ?_⟩
      generalize x2 : upd H1 p2 _ = H2
      obtain ⟨s2, k2⟩ := newO hp2 x2
      refine neD_ints (SqL.of (s2 _ _ k1)) (SqL.of k2) ?_
      walk_at "go"
      by_cases ht : xs.take 4 = hd
      · rw [decide_eq_true ht]
        exact ⟨s1.trans s2, by omega, ht, (by show [some (V.ref h), some (V.ref a), some (V.int ((xs.length : Int) - 4))] = _; rw [show (xs.length : Int) - 4 = ((xs.length - 4 : Nat) : Int) by omega])⟩
      · rw [decide_eq_false ht]
        have ho : o = .bad "head" := by
          cases o with
          | bad r =>
            rcases hO with ⟨rfl, _⟩ | ⟨_, _, z, _⟩ | ⟨_, _, z, _⟩
            · rfl
            · exact absurd z ht
            · exact absurd z ht
          | fine ns => exact absurd hO.2.1 ht
        exact fly1 fun d Hf s3 k => qb _ ho d Hf (s1.trans (s2.trans s3)) k
    rintro _ H2 ⟨s2, h8, ht4, rfl⟩
    refine ⟨fun σ H3 => Same H H3 ∧ xs.drop (xs.length - 4) = wb (mx MM (xs.take (xs.length - 4))) 4 ∧ σ = [some (.ref h), some (.ref a), some (.int ((xs.length - 4 : Nat) : Int))], ?_, ?_⟩
    · refine ⟨_, rfl, _, rfl, _, rfl, a, _, rfl, s2.seq hS, fun p1 hp1 => ?_⟩
      rw [cut_from, ← List.map_drop]
      generalize x3 : upd H2 p1 _ = H3
      obtain ⟨s3, k3⟩ := newO hp1 x3
      refine ⟨_, rfl, _, rfl, _, rfl, a, _, rfl, (s2.trans s3).seq hS, fun p2 hp2 => ?_⟩
      rw [cut_to, ← List.map_take]
      generalize x4 : upd H3 p2 _ = H4
      obtain ⟨s4, k4⟩ := newO hp2 x4
      refine ⟨p2, _, rfl, SqL.of k4, by rw [List.length_take]; omega, fun p3 H5 s5 hp3 k5 => ?_⟩
      refine neD_ints (SqL.of (s5 _ _ (s4 _ _ k3))) (SqL.of k5) ?_
      have s25 := s2.trans (s3.trans (s4.trans s5))
      walk_at "go"
      by_cases hc : xs.drop (xs.length - 4) = wb (mx MM (xs.take (xs.length - 4))) 4
      · rw [decide_eq_true hc]
        exact ⟨s25, hc, rfl⟩
      · rw [decide_eq_false hc]
        have ho : o = .bad "check" := by
          cases o with
          | bad r =>
            rcases hO with ⟨_, z | z⟩ | ⟨rfl, _⟩ | ⟨_, _, _, z, _⟩
            · omega
            · exact absurd ht4 z
            · rfl
            · exact absurd z hc
          | fine ns => exact absurd hO.2.2.1 hc
        exact fly1 fun d Hf s6 k => qb _ ho d Hf (s25.trans s6) k
    rintro _ H3 ⟨s3, hck, rfl⟩
    refine ⟨_, rfl, _, rfl, h, _, rfl, .inr (sqT_same s3 hT), ?_⟩
    rw [hhS]
    refine ⟨_, rfl, _, rfl, _, rfl, a, _, rfl, s3.seq hS, fun p1 hp1 => ?_⟩
    have hlen : 4 ≤ xs.length - 4 := by omega
    rw [cut_mid _ hlen, ← List.map_take, ← List.map_drop]
    generalize x4 : upd H3 p1 _ = H4
    obtain ⟨s4, k4⟩ := newO hp1 x4
    have s34 := s3.trans s4
    refine ⟨p1, bodyOf xs, rfl, SqL.of k4, ?_, fun y hy => hB y (List.mem_of_mem_take (List.mem_of_mem_drop hy)), fun hno => ?_, fun ns hns => ?_⟩
    · unfold bodyOf
      rw [List.length_drop, List.length_take]; omega
    · have ho : o = .bad "numbers" := by
        cases o with
        | bad r =>
          rcases hO with ⟨_, z | z⟩ | ⟨_, _, _, z⟩ | ⟨rfl, _⟩
          · omega
          · exact absurd ht4 z
          · exact absurd hck z
          · rfl
        | fine ns =>
          have z := hO.2.2.2
          rw [hno] at z; cases z
      exact fun d Hf s6 k => qb _ ho d Hf (s34.trans s6) k
    · have ho : o = .fine ns := by
        cases o with
        | bad r =>
          rcases hO with ⟨_, z | z⟩ | ⟨_, _, _, z⟩ | ⟨_, _, _, _, z⟩
          · omega
          · exact absurd ht4 z
          · exact absurd hck z
          · rw [hns] at z; cases z
        | fine ms =>
          have z := hO.2.2.2
          rw [hns] at z; cases z; rfl
      exact fun q2 H6 s6 hq2 k6 => qf ns ho q2 H6 (s34.trans s6) (none_of s34 hq2) k6
theorem c__law_check (D : Def K mg "_law_check" s__law_check ["data"]) (T : Tp w K mg cs)  : Cal P w K mg base CX0 1 "_law_check" (sp__law_check K cs) := by
  refine D.ok sc__law_check (fun vs H Q E h => ?_) (fun f cdv A outer s H vs Q E hr h => ?_)
  · obtain ⟨a, xs, rfl, _⟩ := h; rfl
  · obtain ⟨a, xs, rfl, hS, q⟩ := h
    refine ⟨_, (pss_cons (ps_set (i := 1) sc__law_check.nd rfl (by first | exact Or.inl rfl | exact Or.inr rfl) pe_int)
      (pss_cons (ps_for PassesOwn.never rfl (pi_list (pv 0)) (pg_name (i := 2) sc__law_check.nd rfl (by first | exact Or.inl rfl | exact Or.inr rfl)) (pss_one (ps_set (i := 1) sc__law_check.nd rfl (by first | exact Or.inl rfl | exact Or.inr rfl) (pe_op op_mod (pe_callTy call_int1 (by rfl) T.m_int (by decide +kernel) (pa_cons (pe_op op_add (pe_op op_add (pe_op op_mul (pv 1) pe_int) (pv 2)) pe_int) pa_nil)) pe_int))))
      (pss_one (ps_ret (pe_lst (pa_cons (pe_op op_mod (pe_callTy call_int1 (by rfl) T.m_int (by decide +kernel) (pa_cons (pv 1) pa_nil)) pe_int) (pa_cons (pe_op op_mod (pe_callTy call_int1 (by rfl) T.m_int (by decide +kernel) (pa_cons (pe_op op_fdiv (pv 1) pe_int) pa_nil)) pe_int) (pa_cons (pe_op op_mod (pe_callTy call_int1 (by rfl) T.m_int (by decide +kernel) (pa_cons (pe_op op_fdiv (pv 1) pe_int) pa_nil)) pe_int) (pa_cons (pe_op op_fdiv (pv 1) pe_int) pa_nil))))))))), ?_⟩
    refine ⟨_, rfl, a, rfl, ⟨_, hS⟩, for_listD (xs := xs.map V.int) (fun i σ H2 => H = H2 ∧ ∃ o, σ = [some (.ref a), some (.int (mx MM (xs.take i))), o]) ⟨rfl, _, rfl⟩ (fun i σ H2 _ h => by rw [← h.1]; exact hS) ?_ ?_⟩
    · rintro i x _ _ hx ⟨rfl, o, rfl⟩
      obtain ⟨b, hb, rfl⟩ : ∃ b, xs[i]? = some b ∧ x = .int b := by
        rw [List.getElem?_map] at hx
        cases e : xs[i]? with
        | none => rw [e] at hx; cases hx
        | some b => rw [e] at hx; cases hx; exact ⟨b, rfl, rfl⟩
      walk_at "go"
      rw [List.take_add_one, hb]
      exact ⟨_, by rw [show xs.take i ++ (some b).toList = xs.take i ++ [b] from rfl, mx_snoc]; rfl⟩
    · rintro _ _ ⟨rfl, o, rfl⟩
      rw [List.length_map, List.take_length]
      have hr := mx_rng (show (0 : Int) < MM by decide) xs
      walk_at "go"
      intro p hp
      refine q p _ (Same.new hp) hp ?_
      rw [upd_same]
      have h1 := hr.1
      have h2 : mx MM xs < 2147483647 := hr.2
      generalize mx MM xs = c at h1 h2 ⊢
      have e : wb c 4 = [c % 256, c / 256 % 256, c / 65536 % 256, c / 16777216] := by
        simp only [wb]
        congr 1; congr 1
        · congr 1
          · omega
          · congr 1
            omega
      rw [e]
      rfl

end
def InS (ns : List Int) : Prop := ∀ n ∈ ns, 0 ≤ n ∧ n < 128 ^ 20
theorem InS.r {ns : List Int} (h : InS ns) : InR ns := fun n hn => ⟨(h n hn).1, Int.lt_of_lt_of_le (h n hn).2 (by decide +kernel)⟩
theorem body_lenS : ∀ {ns : List Int}, InS ns → (bodyB ns).length ≤ 20 * ns.length
  | [], _ => Nat.le_refl _
  | n :: r, h => by
    have h1 := wu_len 20 n (h n (List.mem_cons_self ..)).1 (h n (List.mem_cons_self ..)).2
    have h2 := body_lenS (ns := r) fun m hm => h m (List.mem_cons_of_mem _ hm)
    show (wu n ++ bodyB r).length ≤ 20 * (r.length + 1)
    rw [List.length_append]
    simp only [show max 20 1 = 20 from rfl] at h1
    omega
theorem out_fine {hd ns : List Int} (hl : hd.length = 4) (hI : InR ns) : Outc hd (pk hd ns) (.fine ns) := by
  have h1 := pk_cut hd ns
  have h2 : (pk hd ns).length = (hd ++ bodyB ns).length + 4 := by unfold pk; rw [List.length_append, wb_len]
  have h3 : (hd ++ bodyB ns).length = 4 + (bodyB ns).length := by rw [List.length_append, hl]
  refine ⟨by omega, by unfold pk; rw [List.append_assoc, ← hl, List.take_left], by rw [h1.1, h1.2.1, h1.2.2], ?_⟩
  unfold bodyOf
  rw [h1.1, h1.2.1, ← hl, List.drop_left]
  exact nums_body hI
theorem set_split {xs : List Int} {k : Nat} (h : k < xs.length) : ∃ l1 l2, xs = l1 ++ xs.getD k 0 :: l2 ∧ l1.length = k ∧ ∀ v, xs.set k v = l1 ++ v :: l2 := by
  refine ⟨xs.take k, xs.drop (k + 1), ?_, by rw [List.length_take]; omega, fun v => ?_⟩
  · conv => lhs; rw [← List.take_append_drop k xs, List.drop_eq_getElem_cons h]
    rw [List.getD_eq_getElem?_getD, List.getElem?_eq_getElem h]; rfl
  · rw [List.set_eq_take_append_cons_drop, if_pos h]
theorem set_ne {xs : List Int} {k : Nat} {v : Int} (h : k < xs.length) (hv : v ≠ xs.getD k 0) : xs.set k v ≠ xs := by
  obtain ⟨l1, l2, e, _, es⟩ := set_split h
  intro z
  rw [es] at z
  have := List.append_cancel_left (z.trans e)
  exact hv (List.cons.inj this).1
theorem ixN_nat {n k : Nat} (h : k < n) : ixN n (k : Int) = some k := by
  unfold ixN
  rw [if_pos (by omega), if_pos (by omega), Int.toNat_natCast]
theorem take4 {hd ns : List Int} (hl : hd.length = 4) : (pk hd ns).take 4 = hd := by
  unfold pk
  rw [List.append_assoc, ← hl, List.take_left]
theorem pk_len (hd ns : List Int) : (pk hd ns).length = (hd ++ bodyB ns).length + 4 := by unfold pk; rw [List.length_append, wb_len]
theorem out_head {hd ns : List Int} {k : Nat} {v : Int} (hl : hd.length = 4) (hk : k < 4) (hv : v ≠ (pk hd ns).getD k 0) : Outc hd ((pk hd ns).set k v) (.bad "head") := by
  refine .inl ⟨rfl, .inr ?_⟩
  rw [List.take_set, take4 hl]
  refine set_ne (by omega) ?_
  have : (pk hd ns).getD k 0 = hd.getD k 0 := by
    unfold pk
    rw [List.append_assoc, List.getD_eq_getElem?_getD, List.getD_eq_getElem?_getD, List.getElem?_append_left (by omega)]
  rw [← this]; exact hv
theorem out_other {hd ot ns : List Int} (hl : hd.length = 4) (hv : ot ≠ hd) : Outc ot (pk hd ns) (.bad "head") := .inl ⟨rfl, .inr (by rw [take4 hl]; exact fun z => hv z.symm)⟩
theorem out_short {hd ns : List Int} {k : Nat} (hk : k < 8) : Outc hd ((pk hd ns).take k) (.bad "head") := .inl ⟨rfl, .inl (by rw [List.length_take]; omega)⟩
theorem pk_bys {hd ns : List Int} (hh : Bys hd) (hI : InR ns) : Bys (pk hd ns) := fun x hx => by
  unfold pk at hx
  rcases List.mem_append.mp hx with hx | hx
  · rcases List.mem_append.mp hx with hx | hx
    · exact hh x hx
    · exact body_bys hI x hx
  · exact wb_bys 4 _ x hx
theorem out_check {hd ns : List Int} {k : Nat} {v : Int} (hl : hd.length = 4) (hh : Bys hd) (hI : InR ns) (hk : 4 ≤ k) (hk2 : k < (pk hd ns).length) (hv0 : 0 ≤ v ∧ v ≤ 255) (hv : v ≠ (pk hd ns).getD k 0) : Outc hd ((pk hd ns).set k v) (.bad "check") := by
  have hpl := pk_len hd ns
  have hll : (hd ++ bodyB ns).length = 4 + (bodyB ns).length := by rw [List.length_append, hl]
  refine .inr (.inl ⟨rfl, by rw [List.length_set]; omega, ?_, ?_⟩)
  · rw [List.take_set, take4 hl, List.set_eq_of_length_le (by omega)]
  · rw [List.length_set, (pk_cut hd ns).1, List.drop_set, List.take_set, (pk_cut hd ns).2.1, (pk_cut hd ns).2.2]
    by_cases hkB : k < (hd ++ bodyB ns).length
    · rw [if_pos hkB]
      have eg : (pk hd ns).getD k 0 = (hd ++ bodyB ns).getD k 0 := by
        unfold pk
        rw [List.getD_eq_getElem?_getD, List.getD_eq_getElem?_getD, List.getElem?_append_left hkB]
      rw [eg] at hv
      have hb := (pk_bys hh hI) ((pk hd ns).getD k 0) (by rw [List.getD_eq_getElem?_getD, List.getElem?_eq_getElem hk2]; exact List.getElem_mem _)
      rw [eg] at hb
      obtain ⟨l1, l2, e, _, es⟩ := set_split hkB
      rw [es]
      generalize (hd ++ bodyB ns).getD k 0 = b at e hv hb
      rw [e]
      intro z
      have hne : mx MM (l1 ++ b :: l2) ≠ mx MM (l1 ++ v :: l2) := by
        have e1 : ∀ y : Int, l1 ++ y :: l2 = (l1 ++ [y]) ++ l2 := fun y => by simp
        rw [e1, e1]
        refine mx_app_ne l2 ?_
        rw [mx_snoc, mx_snoc]
        exact mx_ne_byte hb hv0 (fun y => hv y.symm)
      exact hne (wb_inj (mx_rng (by decide) _) (mx_rng (by decide) _) z)
    · rw [if_neg hkB, List.set_eq_of_length_le (l := hd ++ bodyB ns) (by omega)]
      refine set_ne (by rw [wb_len]; omega) ?_
      have eg : (pk hd ns).getD k 0 = (wb (mx MM (hd ++ bodyB ns)) 4).getD (k - (hd ++ bodyB ns).length) 0 := by
        conv => lhs; unfold pk
        rw [List.getD_eq_getElem?_getD, List.getD_eq_getElem?_getD, List.getElem?_append_right (by omega)]
      rw [← eg]; exact hv
def sp__law_pack (K : PySem.W.Frag) (cs : Cs) : Sp := fun vs H Q _ => ∃ (h a : Addr) (hd ns : List Int), vs = [.ref h, .ref a] ∧ SqT K H h (hd.map V.int) ∧ SqL K H a (ns.map V.int) ∧ InS ns ∧ ns.length ≤ 100 ∧ hd.length = 4 ∧ Lst H Q (pk hd ns)
def sp__law_groups (K : PySem.W.Frag) (cs : Cs) : Sp := fun vs H Q _ => ∃ n : Int, vs = [.int n] ∧ 0 ≤ n ∧ n < 128 ^ 20 ∧ Lst H Q (wu n)
def sp__law_unpack (K : PySem.W.Frag) (cs : Cs) : Sp := fun vs H Q _ => ∃ (h a : Addr) (hd xs : List Int) (o : Out), vs = [.ref h, .ref a] ∧ SqT K H h (hd.map V.int) ∧ SqL K H a (xs.map V.int) ∧ hd.length = 4 ∧ xs.length ≤ 10000 ∧ Bys xs ∧ Outc hd xs o ∧
  (∀ r, o = .bad r → ∀ t H', Same H H' → H' t = some (.tup [.str r, .bl true, .bl true]) → Q (.ref t) H') ∧
  (∀ ns, o = .fine ns → ∀ t p H', Same H H' → H' p = some (.lst (ns.map V.int)) → H' t = some (.tup [.str "numbers", .ref p, .bl true]) → Q (.ref t) H')
theorem alBad {K : PySem.W.Frag} {H : Hp} {t u : Addr} {r : Str} (h : PyData.strOk r = true) (ht : H t = some (.tup [.str r, .bl true, .bl true])) (hu : H u = some (.tup [.str r, .bl true, .bl true])) : Al K H 3 (.ref t) (.ref u) :=
  .inr ⟨t, u, _, _, rfl, rfl, .inl ⟨ht, hu⟩, rfl, by show 3 ≤ 10000; decide, fun i hi => by
    match i, hi with
    | 0, _ => exact alS 2 h
    | 1, _ => exact alB 2 true
    | 2, _ => exact alB 2 true⟩
theorem alFine {K : PySem.W.Frag} {H : Hp} {t u a b : Addr} {ns : List Int} (ht : H t = some (.tup [.str "numbers", .ref a, .bl true])) (hu : H u = some (.tup [.str "numbers", .ref b, .bl true])) (ha : H a = some (.lst (ns.map V.int))) (hb : H b = some (.lst (ns.map V.int))) (hl : ns.length ≤ 10000) : Al K H 3 (.ref t) (.ref u) :=
  .inr ⟨t, u, _, _, rfl, rfl, .inl ⟨ht, hu⟩, rfl, by show 3 ≤ 10000; decide, fun i hi => by
    match i, hi with
    | 0, _ => exact alS 2 (by decide +kernel)
    | 1, _ => exact alInts 1 ha hb hl
    | 2, _ => exact alB 2 true⟩
def sp__law_big (K : PySem.W.Frag) (cs : Cs) : Sp := fun vs H Q _ => ∃ (a : Addr) (ts : List Int) (p : Int), vs = [.ref a, .int p] ∧ SqL K H a (ts.map V.int) ∧ (0 ≤ p ∧ p ≤ 900000) ∧ ∀ n H', 0 ≤ n → n < 128 ^ 20 → Same H H' → Q (.int n) H'
def bigL : List Int := [0, 1, 127, 128, 255, 16383, 16384, 2 ^ 63, 2 ^ 56]
theorem big_ok : ∀ k < 9, 0 ≤ bigL.getD k 0 ∧ bigL.getD k 0 < 128 ^ 20 := by decide +kernel
def sp_lawK (K : PySem.W.Frag) : Sp := fun vs H Q _ => ∃ (a : Addr) (ns : List Int), vs = [.ref a] ∧ SqL K H a (ns.map V.int) ∧ ns.length ≤ 63 ∧ ∀ H', Q (.bl true) H'
abbrev sp_law (K : PySem.W.Frag) (_ : Cs) : Sp := sp_lawK K
section
variable {P : Program} {w : World} {K : PySem.W.Frag} {mg : Str → Option Value} {base : Heap} {cs : Cs}
theorem c__law_groups (D : Def K mg "_law_groups" s__law_groups ["number"]) (T : Tp w K mg cs)  : Cal P w K mg base CX0 1 "_law_groups" (sp__law_groups K cs) := by
  refine D.ok sc__law_groups (fun vs H Q E h => ?_) (fun f cdv A outer s H vs Q E hr h => ?_)
  · obtain ⟨n, rfl, _⟩ := h; rfl
  · obtain ⟨n, rfl, h0, h1, q⟩ := h
    refine ⟨_, (pss_cons (ps_set (i := 1) sc__law_groups.nd rfl (by first | exact Or.inl rfl | exact Or.inr rfl) (pe_lst pa_nil))
      (pss_cons (ps_for PassesOwn.never rfl (pi_range1 (by rfl) T.m_range (pa_cons pe_int pa_nil)) (pg_name (i := 2) sc__law_groups.nd rfl (by first | exact Or.inl rfl | exact Or.inr rfl)) (pss_cons (ps_if (pt_cmpR op_lt (pv 0) pe_int (by first | rfl | exact nomark _)) (pss_one ps_break) pss_nil)
      (pss_cons (ps_expr (pe_bm PySem.F.plainAttrs_list PySem.F.slot_list_append PySem.F.type_list_append mt_append (pv 1) (pa_cons (pe_op op_add pe_int (pe_op op_mod (pe_callTy call_int1 (by rfl) T.m_int (by decide +kernel) (pa_cons (pv 0) pa_nil)) pe_int)) pa_nil)))
      (pss_one (ps_set (i := 0) sc__law_groups.nd rfl (by first | exact Or.inl rfl | exact Or.inr rfl) (pe_op op_fdiv (pv 0) pe_int))))))
      (pss_cons (ps_expr (pe_bm PySem.F.plainAttrs_list PySem.F.slot_list_append PySem.F.type_list_append mt_append (pv 1) (pa_cons (pv 0) pa_nil)))
      (pss_one (ps_ret (pv 1)))))), ?_⟩
    have hlen := wu_len 20 n h0 h1
    simp only [show max 20 1 = 20 from rfl] at hlen
    walk_at "go"
    intro p hp
    walk_at "go"
    refine for_rangeD (lo := 0) (n := 40) (fun i σ H2 => ∃ (m : Int) (acc : List Int) (o : Option V), 0 ≤ m ∧ acc ++ wu m = wu n ∧ (m < 128 ∨ acc.length = i) ∧ Same H H2 ∧ H2 p = some (.lst (acc.map V.int)) ∧ σ = [some (.int m), some (.ref p), o]) ⟨n, [], _, h0, rfl, .inr rfl, Same.new hp, upd_same, rfl⟩ ?_ ?_
    · rintro i _ H2 hi ⟨m, acc, o, hm, ha, hlt, s2, k2, rfl⟩
      walk_at "go"
      refine ite2 (fun c => ?_) (fun c => ?_)
      · have c' : m < 128 := of_decide_eq_true c
        have e1 : wu m = [m] := by rw [wu, dif_pos c']
        have hla : acc.length < 20 := by rw [← ha, List.length_append, e1, List.length_singleton] at hlen; omega
        refine ⟨_, rfl, .inl ⟨rfl, _, SqL.of k2⟩, ?_⟩
        walk_at "go"
        refine ⟨_, _, _, rfl, rfl, k2, (by rw [List.length_map]; exact small64' (by omega)), ?_⟩
        walk_at "go"
        refine q p _ (fun b o e => ?_) hp ?_
        · rw [upd_ne (ne_of_none e hp)]; exact s2 _ _ e
        · rw [upd_same, ← ha, e1, List.map_append]; rfl
      · have c' : ¬ m < 128 := of_decide_eq_false (Bool.eq_false_iff.mpr c)
        have e1 : wu m = (128 + m % 128) :: wu (m / 128) := by rw [wu, dif_neg c']
        have hla : acc.length = i := hlt.elim (fun z => absurd z c') id
        refine ⟨_, rfl, .inl ⟨rfl, _, SqL.of k2⟩, ?_⟩
        walk_at "go"
        refine ⟨_, _, _, rfl, rfl, k2, (by rw [List.length_map]; exact small64' (by omega)), ?_⟩
        walk_at "go"
        refine ⟨m / 128, acc ++ [128 + m % 128], _, by omega, by rw [List.append_assoc]; show acc ++ ((128 + m % 128) :: wu (m / 128)) = _; rw [← e1]; exact ha, .inr (by rw [List.length_append, List.length_singleton, hla]), fun b o e => ?_, ?_, rfl⟩
        · rw [upd_ne (ne_of_none e hp)]; exact s2 _ _ e
        · rw [upd_same, List.map_append]; rfl
    · rintro _ H2 ⟨m, acc, o, hm, ha, hlt, s2, k2, rfl⟩
      have c' : m < 128 := hlt.elim id fun z => by
        rw [← ha, List.length_append] at hlen
        omega
      have e1 : wu m = [m] := by rw [wu, dif_pos c']
      have hla : acc.length < 20 := by rw [← ha, List.length_append, e1, List.length_singleton] at hlen; omega
      refine ⟨_, rfl, .inl ⟨rfl, _, SqL.of k2⟩, ?_⟩
      walk_at "go"
      refine ⟨_, _, _, rfl, rfl, k2, (by rw [List.length_map]; exact small64' (by omega)), ?_⟩
      walk_at "go"
      refine q p _ (fun b o e => ?_) hp ?_
      · rw [upd_ne (ne_of_none e hp)]; exact s2 _ _ e
      · rw [upd_same, ← ha, e1, List.map_append]; rfl
theorem c__law_pack (D : Def K mg "_law_pack" s__law_pack ["head", "numbers"]) (T : Tp w K mg cs) (c__law_check : Cal P w K mg base CX0 1 "_law_check" (sp__law_check K cs)) (c__law_groups : Cal P w K mg base CX0 1 "_law_groups" (sp__law_groups K cs)) : Cal P w K mg base CX0 2 "_law_pack" (sp__law_pack K cs) := by
  refine D.ok sc__law_pack (fun vs H Q E h => ?_) (fun f cdv A outer s H vs Q E hr h => ?_)
  · obtain ⟨h, a, hd, ns, rfl, _⟩ := h; rfl
  · obtain ⟨h, a, hd, ns, rfl, hT, hS, hI, hn, h4, q⟩ := h
    refine ⟨_, (pss_cons (ps_set (i := 2) sc__law_pack.nd rfl (by first | exact Or.inl rfl | exact Or.inr rfl) (pe_callTy call_list_of (by rfl) T.m_list (by decide +kernel) (pa_cons (pv 0) pa_nil)))
      (pss_cons (ps_for PassesOwn.never rfl (pi_list (pv 1)) (pg_name (i := 3) sc__law_pack.nd rfl (by first | exact Or.inl rfl | exact Or.inr rfl)) (pss_one (ps_expr (pe_bm PySem.F.plainAttrs_list PySem.F.slot_list_extend PySem.F.type_list_extend mt_extend (pv 2) (pa_cons (pe_c c__law_groups hr (by decide) (by rfl) (pa_cons (pv 3) pa_nil)) pa_nil)))))
      (pss_one (ps_ret (pe_op op_cat (pv 2) (pe_c c__law_check hr (by decide) (by rfl) (pa_cons (pv 2) pa_nil))))))), ?_⟩
    refine ⟨_, rfl, h, _, rfl, .inr hT, fun p hp => ?_⟩
    generalize x1 : upd H p _ = H1
    obtain ⟨s1, k1⟩ : Same H H1 ∧ H1 p = some (.lst (hd.map V.int)) := by subst x1; exact ⟨Same.new hp, upd_same⟩
    refine ⟨_, rfl, a, rfl, ⟨_, s1.seq hS⟩, for_listD (xs := ns.map V.int) (fun i σ H2 => Same H H2 ∧ H2 p = some (.lst ((hd ++ bodyB (ns.take i)).map V.int)) ∧ ∃ o, σ = [some (.ref h), some (.ref a), some (.ref p), o]) ⟨s1, by rw [k1]; show _ = some (HO.lst ((hd ++ []).map V.int)); rw [List.append_nil], _, rfl⟩ (fun i σ H2 _ h => h.1.seq hS) ?_ ?_⟩
    · rintro i x _ H2 hx ⟨s2, k2, o, rfl⟩
      obtain ⟨b, hb, rfl⟩ : ∃ b, ns[i]? = some b ∧ x = .int b := by
        rw [List.getElem?_map] at hx
        cases e : ns[i]? with
        | none => rw [e] at hx; cases hx
        | some b => rw [e] at hx; cases hx; exact ⟨b, rfl, rfl⟩
      have hbI := hI b (List.mem_of_getElem? hb)
      have hbl := body_lenS (ns := ns.take i) (fun m hm => hI m (List.mem_of_mem_take hm))
      have hwl := wu_len 20 b hbI.1 hbI.2
      simp only [show max 20 1 = 20 from rfl] at hwl
      have htl : (ns.take i).length ≤ 100 := by rw [List.length_take]; omega
      refine ⟨_, rfl, .inl ⟨rfl, _, SqL.of k2⟩, ?_⟩
      refine ⟨_, rfl, b, rfl, hbI.1, hbI.2, fun p2 H3 s3 hp2 k3 => ?_⟩
      refine ⟨p, p2, _, _, rfl, rfl, s3 _ _ k2, k3, small64 (by rw [List.length_map, List.length_map, List.length_append]; omega), ?_⟩
      refine ⟨fun c o e => ?_, ?_, _, rfl⟩
      · rw [upd_ne (ne_of_none e hp)]; exact s3 _ _ (s2 _ _ e)
      · rw [upd_same, List.take_add_one, hb, ← List.map_append, List.append_assoc]
        show _ = some (HO.lst ((hd ++ (ns.take i ++ [b]).flatMap wu).map V.int))
        rw [List.flatMap_append]; simp [bodyB]
    · rintro _ H2 ⟨s2, k2, o, rfl⟩
      rw [List.length_map, List.take_length] at k2
      have hbl := body_lenS hI
      refine ⟨_, rfl, _, rfl, p, _, rfl, SqL.of k2, fun p2 H3 s3 hp2 k3 => ?_⟩
      refine ⟨p, p2, _, _, rfl, rfl, s3 _ _ k2, k3, small64 (by rw [List.length_map, List.length_map, List.length_append, wb_len]; omega), fun p3 hp3 => ?_⟩
      have s4 := s2.trans (s3.trans (Same.new (o := .lst ((hd ++ bodyB ns).map V.int ++ (wb (mx MM (hd ++ bodyB ns)) 4).map V.int)) hp3))
      refine q p3 _ s4 (none_of (s2.trans s3) hp3) ?_
      rw [upd_same, ← List.map_append]; rfl
theorem c__law_big (D : Def K mg "_law_big" s__law_big ["tape", "at"]) (T : Tp w K mg cs) (c__law_draw : Cal P w K mg base CX0 1 "_law_draw" (sp__law_draw K cs)) : Cal P w K mg base CX0 2 "_law_big" (sp__law_big K cs) := by
  refine D.ok sc__law_big (fun vs H Q E h => ?_) (fun f cdv A outer s H vs Q E hr h => ?_)
  · obtain ⟨a, ts, p, rfl, _⟩ := h; rfl
  · obtain ⟨a, ts, p, rfl, hS, ⟨hp0, hp⟩, q⟩ := h
    refine ⟨_, (pss_cons (ps_set (i := 2) sc__law_big.nd rfl (by first | exact Or.inl rfl | exact Or.inr rfl) (pe_c c__law_draw hr (by decide) (by rfl) (pa_cons (pv 0) (pa_cons (pv 1) (pa_cons pe_int pa_nil)))))
      (C8.pss_cut (ps_if (pt_cmpR op_lt (pv 2) pe_int (by first | rfl | exact nomark _)) (pss_one (ps_ret (pe_ix ix_list (pe_lst (pa_cons pe_int (pa_cons pe_int (pa_cons pe_int (pa_cons pe_int (pa_cons pe_int (pa_cons pe_int (pa_cons pe_int (pa_cons (pe_op op_pow pe_int pe_int) (pa_cons (pe_op op_pow pe_int pe_int) pa_nil)))))))))) (pv 2) (fun _ _ => rfl)))) pss_nil)
      (pss_cons (ps_set (i := 3) sc__law_big.nd rfl (by first | exact Or.inl rfl | exact Or.inr rfl) pe_int)
      (pss_cons (ps_for PassesOwn.never rfl (pi_range1 (by rfl) T.m_range (pa_cons (pe_c c__law_draw hr (by decide) (by rfl) (pa_cons (pv 0) (pa_cons (pe_op op_add (pv 1) pe_int) (pa_cons pe_int pa_nil)))) pa_nil)) (pg_name (i := 4) sc__law_big.nd rfl (by first | exact Or.inl rfl | exact Or.inr rfl)) (pss_one (ps_set (i := 3) sc__law_big.nd rfl (by first | exact Or.inl rfl | exact Or.inr rfl) (pe_op op_add (pe_op op_mul (pv 3) pe_int) (pe_c c__law_draw hr (by decide) (by rfl) (pa_cons (pv 0) (pa_cons (pe_op op_add (pe_op op_add (pv 1) pe_int) (pv 4)) (pa_cons pe_int pa_nil))))))))
      (pss_one (ps_ret (pv 3))))))), ?_⟩
    refine ⟨_, rfl, _, rfl, a, ts, p, 14, rfl, hS, ⟨by omega, by omega⟩, by decide, fun pick k0 k1 => ?_⟩
    refine ⟨fun σ H2 => H = H2 ∧ σ = [some (.ref a), some (.int p), some (.int pick), none, none], ?_, ?_⟩
    · walk_at "go"
      refine ite2 (fun c => ?_) (fun c => ?_)
      · have c' : pick < 9 := of_decide_eq_true c
        obtain ⟨k, rfl⟩ := Int.eq_ofNat_of_zero_le k0
        walk_at "go"
        intro e1 h1
        generalize x1 : upd H e1 _ = H1
        obtain ⟨s1, k1⟩ : Same H H1 ∧ H1 e1 = some (.lst (bigL.map V.int)) := by subst x1; exact ⟨Same.new h1, upd_same⟩
        refine ⟨_, rfl, _, _, _, _, rfl, rfl, SqL.of k1, at_ints (show k < 9 by omega), ?_⟩
        have hb := big_ok k (by omega)
        exact q _ _ hb.1 hb.2 s1
      · exact ⟨rfl, rfl⟩
    rintro _ _ ⟨rfl, rfl⟩
    walk_at "go"
    refine ⟨a, ts, p + 1, 5, rfl, hS, ⟨by omega, by omega⟩, by decide, fun m m0 m1 => ?_⟩
    obtain ⟨m, rfl⟩ := Int.eq_ofNat_of_zero_le m0
    walk_at "go"
    refine for_rangeD (lo := 0) (n := m) (fun i σ H2 => H = H2 ∧ ∃ (n : Int) (o : Option V), 0 ≤ n ∧ n < 1000 ^ i ∧ σ = [some (.ref a), some (.int p), some (.int pick), some (.int n), o]) ⟨rfl, 0, _, Int.le_refl _, by decide, rfl⟩ ?_ ?_
    · rintro i _ _ hi ⟨rfl, n, o, hn0, hn1, rfl⟩
      walk_at "go"
      refine ⟨a, ts, p + 2 + (0 + (i : Int)), 1000, rfl, hS, ⟨by omega, by omega⟩, by decide, fun d d0 d1 => ?_⟩
      walk_at "go"
      have e : (1000 : Int) ^ (i + 1) = 1000 ^ i * 1000 := Int.pow_succ 1000 i
      exact ⟨_, _, by omega, by omega, rfl⟩
    · rintro _ _ ⟨rfl, n, o, hn0, hn1, rfl⟩
      walk_at "go"
      refine q n _ hn0 (Int.lt_of_lt_of_le hn1 ?_) (Same.refl _)
      have : (1000 : Int) ^ m ≤ 1000 ^ 4 := by
        have := Nat.pow_le_pow_right (show 0 < 1000 by decide) (show m ≤ 4 by omega)
        exact_mod_cast this
      exact Int.le_trans this (by decide)
theorem c__law_unpack (D : Def K mg "_law_unpack" s__law_unpack ["head", "data"]) (T : Tp w K mg cs) (c_unpack : Cal P w K mg base (L2.CX P w) 5 "unpack" (sp_unpack K cs)) : Cal P w K mg base CX0 6 "_law_unpack" (sp__law_unpack K cs) := by
  refine D.ok sc__law_unpack (fun vs H Q E h => ?_) (fun f cdv A outer s H vs Q E hr h => ?_)
  · obtain ⟨h, a, hd, xs, o, rfl, _⟩ := h; rfl
  · obtain ⟨h, a, hd, xs, o, rfl, hT, hS, h4, hl, hBy, hO, qb, qf⟩ := h
    refine ⟨_, (pss_cons (ps_set (i := 2) sc__law_unpack.nd rfl (by first | exact Or.inl rfl | exact Or.inr rfl) (pe_callTy call_list_of (by rfl) T.m_list (by decide +kernel) (pa_cons (pv 1) pa_nil)))
      (pss_cons (ps_try_as (i := 4) (tb := _) (ts := _) (Wout := fun _ _ _ _ => False) rfl rfl sc__law_unpack.nd rfl rfl ⟨rfl, by decide, .inl T.g_DamagedSave⟩ takes0 (fun W pn xe tk po => (pss_one (ps_set (i := 3) sc__law_unpack.nd rfl (by first | exact Or.inl rfl | exact Or.inr rfl) (pe_cS c_unpack hr (by decide) (by rfl) (fun σ => passAt tk σ) (pa_cons (pv 0) (pa_cons (pv 2) pa_nil)))))) (fun a oe cls d pn hz hf => (pss_one (ps_ret (pe_tup (pa_cons (pe_xf T.e_DamagedSave.xf T.no_DamagedSave_place hz hf (pv 4)) (pa_cons (pe_callB (call_isX hz hf T.e_DamagedSave) (by rfl) T.m_isinstance (by decide +kernel) (pa_cons (pv 4) (pa_cons (pe_glob (v := .ref cs.C_HostError) (by rfl) T.g_HostError rfl) pa_nil))) (pa_cons (pe_cmpR (op_eqDS (hu64 hr)) (pv 2) (pv 1) (by first | rfl | exact nomark _)) pa_nil))))))))
      (pss_one (ps_ret (pe_tup (pa_cons pe_str (pa_cons (pv 3) (pa_cons (pe_cmpR (op_eqD (hu64 hr)) (pv 2) (pv 1) (by first | rfl | exact nomark _)) pa_nil)))))))), ?_⟩
    refine ⟨_, rfl, a, _, rfl, .inl hS, fun p0 hp0 => ?_⟩
    generalize x1 : upd H p0 _ = H1
    obtain ⟨s1, k1⟩ : Same H H1 ∧ H1 p0 = some (.lst (xs.map V.int)) := by subst x1; exact ⟨Same.new hp0, upd_same⟩
    walk_at "go"
    refine ⟨h, p0, hd, xs, o, rfl, sqT_same s1 hT, SqL.of k1, h4, hl, hBy, hO, fun r e => ?_, fun ns e => ?_⟩
    · intro d Hf s2 kd
      refine ⟨true, T.exm_DamagedSave_DamagedSave, fun _ ea hea => ?_, fun z => Bool.noConfusion z⟩
      have hp2 := s2 _ _ k1
      have hS2 := (s1.trans s2).seq hS
      walk_at "go"
      refine ⟨d, _, _, rfl, kd, rfl, ?_⟩
      walk_at "go"
      refine ⟨_, _, true, d, _, rfl, rfl, rfl, kd, rfl, fun u hu => hu, T.kit_DamagedSave_HostError, ?_⟩
      walk_at "go"
      refine eqD_ints (SqL.of hp2) hS2 ?_
      rw [decide_eq_true rfl]
      walk_at "go"
      intro t ht
      exact qb r e t _ (s1.trans (s2.trans (Same.new ht))) upd_same
    · intro p H2 s2 hp k2
      have hp2 := s2 _ _ k1
      have hS2 := (s1.trans s2).seq hS
      walk_at "go"
      refine eqD_ints (SqL.of hp2) hS2 ?_
      rw [decide_eq_true rfl]
      walk_at "go"
      intro t ht
      exact qf ns e t p _ (s1.trans (s2.trans (Same.new ht))) ((Same.new ht) _ _ k2) upd_same
theorem c_law {f : Addr} {fd : FuncData} (D : L2.Fun K "law" "law" s_law f fd) (T : Tp w K mg cs) (c__law_tape : Cal P w K mg base CX0 1 "_law_tape" (sp__law_tape K cs)) (c_pack : Cal P w K mg base CX0 5 "pack" (sp_pack K cs)) (c__law_draw : Cal P w K mg base CX0 1 "_law_draw" (sp__law_draw K cs)) (c__law_equal : Cal P w K mg base CX0 5 "_law_equal" (sp__law_equal K cs 3)) (c__law_big : Cal P w K mg base CX0 2 "_law_big" (sp__law_big K cs)) (c__law_unpack : Cal P w K mg base CX0 6 "_law_unpack" (sp__law_unpack K cs)) (c_mix : Cal P w K mg base CX0 3 "mix" (sp_mix K cs)) (c__law_pack : Cal P w K mg base CX0 2 "_law_pack" (sp__law_pack K cs)) : FnOk P w K mg base CX0 7 f fd ["script"] (sp_law K cs) := by
  refine D.ok sc_law (fun vs H Q E h => ?_) (fun cdv A outer s H vs Q E hr h => ?_)
  · obtain ⟨a, ns, rfl, _⟩ := h; rfl
  · obtain ⟨a, ns0, rfl, hS, hlen, q⟩ := h
    refine ⟨_, (pss_cons (ps_set (i := 1) sc_law.nd rfl (by first | exact Or.inl rfl | exact Or.inr rfl) (pe_c c__law_tape hr (by decide) (by rfl) (pa_cons (pv 0) pa_nil)))
      (pss_cons (ps_set (i := 2) sc_law.nd rfl (by first | exact Or.inl rfl | exact Or.inr rfl) (pe_callTy call_tuple_of (by rfl) T.m_tuple (by decide +kernel) (pa_cons (pe_lc (own := [("k", 13)]) (g := gName 13) (tt := tYes) (by rfl) sc_law.nd (pi_range1 (by rfl) T.m_range (pa_cons pe_int pa_nil)) (blkOk_by (own := [("k", 13)]) (N := ["script", "tape", "head", "numbers", "passed", "data", "modulus", "check", "byte", "place", "spoilt", "word", "other", "k"]) (sc := defScope s_law) (by decide +kernel)) (fun _ _ _ _ _ => (pg_name (i := 13) sc_law.nd rfl (by first | exact Or.inl rfl | exact Or.inr rfl))) (fun _ _ _ _ _ => pts_nil) (fun _ _ _ _ _ => (pe_c c__law_draw hr (by decide) (by rfl) (pa_cons (pv 1) (pa_cons (pv 13) (pa_cons pe_int pa_nil)))))) pa_nil)))
      (pss_cons (ps_setLc (i := 3) (own := [("k", 13)]) (g := gName 13) (tt := tYes) (by rfl) sc_law.nd rfl rfl (sw_true rfl rfl rfl (by decide +kernel)) (pi_range1 (by rfl) T.m_range (pa_cons (pe_c c__law_draw hr (by decide) (by rfl) (pa_cons (pv 1) (pa_cons pe_int (pa_cons pe_int pa_nil)))) pa_nil)) (blkOk_by (own := [("k", 13)]) (N := ["script", "tape", "head", "numbers", "passed", "data", "modulus", "check", "byte", "place", "spoilt", "word", "other", "k"]) (sc := defScope s_law) (by decide +kernel)) (fun _ _ _ _ _ => (pg_name (i := 13) sc_law.nd rfl (by first | exact Or.inl rfl | exact Or.inr rfl))) (fun _ _ _ _ _ => pts_nil) (fun _ _ _ _ _ => (pe_c c__law_big hr (by decide) (by rfl) (pa_cons (pv 1) (pa_cons (pe_op op_add pe_int (pe_op op_mul pe_int (pv 13))) pa_nil)))))
      (pss_cons (ps_set (i := 4) sc_law.nd rfl (by first | exact Or.inl rfl | exact Or.inr rfl) (pe_callTy call_list_of (by rfl) T.m_list (by decide +kernel) (pa_cons (pv 3) pa_nil)))
      (pss_cons (ps_set (i := 5) sc_law.nd rfl (by first | exact Or.inl rfl | exact Or.inr rfl) (pe_c c_pack hr (by decide) (by rfl) (pa_cons (pv 2) (pa_cons (pv 4) pa_nil))))
      (pss_cons (ps_if (PW.pt (pw_or (pt_cmpR (op_neD (hu64 hr)) (pv 4) (pv 3) (by first | rfl | exact nomark _)) (pw_or1 (pt_not (pt_val (pe_c c__law_equal hr (by decide) (by rfl) (pa_cons (pv 5) (pa_cons (pe_c c__law_pack hr (by decide) (by rfl) (pa_cons (pv 2) (pa_cons (pv 3) pa_nil))) pa_nil)))))))) (pss_one (ps_ret pe_bl)) pss_nil)
      (pss_cons (ps_if (pt_not (pt_val (pe_c c__law_equal hr (by decide) (by rfl) (pa_cons (pe_c c__law_unpack hr (by decide) (by rfl) (pa_cons (pv 2) (pa_cons (pv 5) pa_nil))) (pa_cons (pe_tup (pa_cons pe_str (pa_cons (pv 3) (pa_cons pe_bl pa_nil)))) pa_nil))))) (pss_one (ps_ret pe_bl)) pss_nil)
      (pss_cons (ps_set (i := 6) sc_law.nd rfl (by first | exact Or.inl rfl | exact Or.inr rfl) (pe_op op_add pe_int (pe_c c__law_draw hr (by decide) (by rfl) (pa_cons (pv 1) (pa_cons pe_int (pa_cons pe_int pa_nil))))))
      (pss_cons (ps_set (i := 7) sc_law.nd rfl (by first | exact Or.inl rfl | exact Or.inr rfl) pe_int)
      (pss_cons (ps_for PassesOwn.never rfl (pi_list (pv 5)) (pg_name (i := 8) sc_law.nd rfl (by first | exact Or.inl rfl | exact Or.inr rfl)) (pss_one (ps_set (i := 7) sc_law.nd rfl (by first | exact Or.inl rfl | exact Or.inr rfl) (pe_op op_mod (pe_callTy call_int1 (by rfl) T.m_int (by decide +kernel) (pa_cons (pe_op op_add (pe_op op_add (pe_op op_mul (pv 7) pe_int) (pv 8)) pe_int) pa_nil)) (pv 6)))))
      (pss_cons (ps_if (pt_not (pt_val (pe_c c__law_equal hr (by decide) (by rfl) (pa_cons (pe_c c_mix hr (by decide) (by rfl) (pa_cons (pe_callTy call_list_of (by rfl) T.m_list (by decide +kernel) (pa_cons (pv 5) pa_nil)) (pa_cons (pv 6) pa_nil))) (pa_cons (pv 7) pa_nil))))) (pss_one (ps_ret pe_bl)) pss_nil)
      (pss_cons (ps_set (i := 9) sc_law.nd rfl (by first | exact Or.inl rfl | exact Or.inr rfl) (pe_op op_mod (pe_callTy call_int1 (by rfl) T.m_int (by decide +kernel) (pa_cons (pe_op op_add (pe_op op_mul (pe_c c__law_draw hr (by decide) (by rfl) (pa_cons (pv 1) (pa_cons pe_int (pa_cons pe_int pa_nil)))) pe_int) (pe_c c__law_draw hr (by decide) (by rfl) (pa_cons (pv 1) (pa_cons pe_int (pa_cons pe_int pa_nil))))) pa_nil)) (pe_callB call_len_seq (by rfl) T.m_len PySem.boot_len (pa_cons (pv 5) pa_nil))))
      (C8.pss_cut (ps_if (pt_cmpR op_eq (pe_c c__law_draw hr (by decide) (by rfl) (pa_cons (pv 1) (pa_cons pe_int (pa_cons pe_int pa_nil)))) pe_int (by first | rfl | exact nomark _)) (pss_cons (ps_set (i := 9) sc_law.nd rfl (by first | exact Or.inl rfl | exact Or.inr rfl) (pe_op op_sub (pe_c c__law_draw hr (by decide) (by rfl) (pa_cons (pv 1) (pa_cons pe_int (pa_cons pe_int pa_nil)))) pe_int))
      (pss_one (ps_if (pt_cmpR op_lt (pv 9) pe_int (by first | rfl | exact nomark _)) (pss_one (ps_set (i := 9) sc_law.nd rfl (by first | exact Or.inl rfl | exact Or.inr rfl) (pe_op op_add (pv 9) (pe_callB call_len_seq (by rfl) T.m_len PySem.boot_len (pa_cons (pv 5) pa_nil))))) pss_nil))) pss_nil)
      (pss_cons (ps_set (i := 10) sc_law.nd rfl (by first | exact Or.inl rfl | exact Or.inr rfl) (pe_callTy call_list_of (by rfl) T.m_list (by decide +kernel) (pa_cons (pv 5) pa_nil)))
      (pss_cons (ps_asg (pe_op op_mod (pe_callTy call_int1 (by rfl) T.m_int (by decide +kernel) (pa_cons (pe_op op_add (pe_op op_add (pe_ix ix_list (pv 10) (pv 9) (fun _ _ => rfl)) pe_int) (pe_c c__law_draw hr (by decide) (by rfl) (pa_cons (pv 1) (pa_cons pe_int (pa_cons pe_int pa_nil))))) pa_nil)) pe_int) (pg_sub (pv 10) (pv 9) set_list))
      (pss_cons (ps_set (i := 11) sc_law.nd rfl (by first | exact Or.inl rfl | exact Or.inr rfl) pe_str)
      (C8.pss_cut (ps_if (pt_cmpR op_lt (pv 9) pe_int (by first | rfl | exact nomark _)) (pss_one (ps_set (i := 11) sc_law.nd rfl (by first | exact Or.inl rfl | exact Or.inr rfl) pe_str)) pss_nil)
      (pss_cons (ps_if (pt_not (pt_val (pe_c c__law_equal hr (by decide) (by rfl) (pa_cons (pe_c c__law_unpack hr (by decide) (by rfl) (pa_cons (pv 2) (pa_cons (pv 10) pa_nil))) (pa_cons (pe_tup (pa_cons (pv 11) (pa_cons pe_bl (pa_cons pe_bl pa_nil)))) pa_nil))))) (pss_one (ps_ret pe_bl)) pss_nil)
      (pss_cons (ps_set (i := 12) sc_law.nd rfl (by first | exact Or.inl rfl | exact Or.inr rfl) (pe_callTy call_list_of (by rfl) T.m_list (by decide +kernel) (pa_cons (pv 2) pa_nil)))
      (pss_cons (ps_set (i := 9) sc_law.nd rfl (by first | exact Or.inl rfl | exact Or.inr rfl) (pe_c c__law_draw hr (by decide) (by rfl) (pa_cons (pv 1) (pa_cons pe_int (pa_cons pe_int pa_nil)))))
      (pss_cons (ps_asg (pe_op op_mod (pe_callTy call_int1 (by rfl) T.m_int (by decide +kernel) (pa_cons (pe_op op_add (pe_ix ix_list (pv 12) (pv 9) (fun _ _ => rfl)) pe_int) pa_nil)) pe_int) (pg_sub (pv 12) (pv 9) set_list))
      (pss_cons (ps_if (pt_not (pt_val (pe_c c__law_equal hr (by decide) (by rfl) (pa_cons (pe_c c__law_unpack hr (by decide) (by rfl) (pa_cons (pe_callTy call_tuple_of (by rfl) T.m_tuple (by decide +kernel) (pa_cons (pv 12) pa_nil)) (pa_cons (pv 5) pa_nil))) (pa_cons (pe_tup (pa_cons pe_str (pa_cons pe_bl (pa_cons pe_bl pa_nil)))) pa_nil))))) (pss_one (ps_ret pe_bl)) pss_nil)
      (pss_one (ps_ret (pe_c c__law_equal hr (by decide) (by rfl) (pa_cons (pe_c c__law_unpack hr (by decide) (by rfl) (pa_cons (pv 2) (pa_cons (pe_slice sl_list (pv 5) po_none (po_some (pe_c c__law_draw hr (by decide) (by rfl) (pa_cons (pv 1) (pa_cons pe_int (pa_cons pe_int pa_nil)))))) pa_nil))) (pa_cons (pe_tup (pa_cons pe_str (pa_cons pe_bl (pa_cons pe_bl pa_nil)))) pa_nil))))))))))))))))))))))))))), ?_⟩
    refine ⟨_, rfl, a, ns0, rfl, hS, hlen, fun ts hN hT p H1 s1 _ k1 => ?_⟩
    have hS1 : SqL K H1 p (ts.map V.int) := SqL.of k1
    walk_at "go"
    intro D hD
    refine lc_anyR (n := 4) (j := 13) (fun v => ∃ z : Int, v = .int z ∧ (0 ≤ z ∧ z ≤ 255)) hD (by omega) (fun i H2 Q2 hi s2 q2 => ?_) (fun hx H2 hl hx2 s2 k2 => ?_)
    · refine ⟨_, rfl, _, rfl, p, ts, (i : Int), 256, rfl, s2.seq hS1, ⟨by omega, by omega⟩, by decide, fun d d0 d1 => ?_⟩
      exact q2 _ _ ⟨d, rfl, d0, by omega⟩ (Same.refl _)
    obtain ⟨hd, rfl, hdB⟩ := ints_of hx2
    rw [List.length_map] at hl
    refine ⟨D, _, rfl, .inl ⟨SqL.of k2, fun t ht => ?_⟩⟩
    generalize x3 : upd H2 t _ = H3
    obtain ⟨s3, k3⟩ : Same H2 H3 ∧ H3 t = some (.tup (hd.map V.int)) := by subst x3; exact ⟨Same.new ht, upd_same⟩
    have s13 := s2.trans s3
    refine ⟨_, rfl, p, ts, 4, 25, rfl, s13.seq hS1, ⟨by decide, by decide⟩, by decide, fun n n0 n1 => ?_⟩
    obtain ⟨n, rfl⟩ := Int.eq_ofNat_of_zero_le n0
    walk_at "go"
    intro D2 hD2
    refine lc_anyR (n := n) (j := 13) (fun v => ∃ z : Int, v = .int z ∧ (0 ≤ z ∧ z < 128 ^ 20)) hD2 (by omega) (fun i H4 Q2 hi s4 q2 => ?_) (fun nx H4 hl4 hnx s4 k4 => ?_)
    · walk_at "go"
      refine ⟨p, ts, 12 + 7 * (i : Int), rfl, (s13.trans s4).seq hS1, ⟨by omega, by omega⟩, fun v H5 v0 v1 s5 => ?_⟩
      exact q2 _ _ ⟨v, rfl, v0, v1⟩ s5
    obtain ⟨ns, rfl, hIS⟩ := ints_of hnx
    have hI : InR ns := InS.r hIS
    rw [List.length_map] at hl4
    have hn : ns.length ≤ 100 := by omega
    walk_at "go"
    have q0 := q
    refine ⟨D2, _, rfl, .inl (SqL.of k4), fun p3 hp3 => ?_⟩
    generalize x5 : upd H4 p3 _ = H5
    obtain ⟨s5, k5⟩ : Same H4 H5 ∧ H5 p3 = some (.lst (ns.map V.int)) := by subst x5; exact ⟨Same.new hp3, upd_same⟩
    have s35 := s4.trans s5
    have kN := s5 _ _ k4
    have kT := s35 _ _ k3
    refine ⟨_, rfl, _, rfl, t, p3, hd, ns, rfl, SqT.of kT, SqL.of k5, hI, hn, hl, fun d H6 s6 _ k6 => ?_⟩
    have hbl := body_len hI
    have hB := body_bys hI
    have hPL : (pk hd ns).length ≤ 10000 := by unfold pk; rw [List.length_append, List.length_append, wb_len]; omega
    have hP8 : 8 ≤ (pk hd ns).length := by unfold pk; rw [List.length_append, List.length_append, wb_len]; omega
    have kN6 := s6 _ _ kN
    have kT6 := s6 _ _ kT
    have hS6 := (s13.trans (s35.trans s6)).seq hS1
    walk_at "go"
    refine neD_ints (SqL.of (s6 _ _ k5)) (SqL.of kN6) ?_
    rw [decide_eq_true rfl]
    walk_at "go"
    refine ⟨t, D2, hd, ns, rfl, SqT.of kT6, SqL.of kN6, hIS, hn, hl, fun d2 H7 s7 _ k7 => ?_⟩
    have kD7 := s7 _ _ k6
    refine ⟨_, _, rfl, alInts 2 kD7 k7 (by omega), ?_⟩
    walk_at "go"
    have kT7 := s7 _ _ kT6
    have kN7 := s7 _ _ kN6
    refine ⟨t, d, hd, pk hd ns, .fine ns, rfl, SqT.of kT7, SqL.of kD7, hl, hPL, pk_bys hdB hI, out_fine hl hI, (fun r e => by cases e), fun ns' e => ?_⟩
    cases e
    refine fun t8 p8 H8 s8 k8p k8 => ?_
    walk_at "go"
    intro u8 hu8
    generalize x9 : upd H8 u8 _ = H9
    obtain ⟨s9, k9⟩ : Same H8 H9 ∧ H9 u8 = some (.tup [.str "numbers", .ref D2, .bl true]) := by subst x9; exact ⟨Same.new hu8, upd_same⟩
    have s79 := s8.trans s9
    refine ⟨_, _, rfl, alFine (s9 _ _ k8) k9 (s9 _ _ k8p) (s79 _ _ kN7) (by omega), ?_⟩
    have kT9 := s79 _ _ kT7
    have kD9 := s79 _ _ kD7
    have hS9 := (s7.trans s79).seq hS6
    clear x3 x5 x9 kN6 kT6 kN7 kT7 kD7 k7 k8 k8p k9 s79
    walk_at "go"
    refine ⟨p, ts, 5, 1000, rfl, hS9, ⟨by decide, by decide⟩, by decide, fun m m0 m1 => ?_⟩
    walk_at "go"
    refine ⟨⟨_, SqL.of kD9⟩, for_listD (xs := (pk hd ns).map V.int) (fun i σ H' => H9 = H' ∧ ∃ o8, σ = [some (.ref a), some (.ref p), some (.ref t), some (.ref D2), some (.ref p3), some (.ref d), some (.int (2 + m)), some (.int (mx (2 + m) ((pk hd ns).take i))), o8, none, none, none, none, none]) ⟨rfl, _, rfl⟩ (fun i σ H' _ h => by rw [← h.1]; exact SqL.of kD9) ?_ ?_⟩
    · rintro i x _ _ hx ⟨rfl, o8, rfl⟩
      obtain ⟨b, hb, rfl⟩ : ∃ b, (pk hd ns)[i]? = some b ∧ x = .int b := by
        rw [List.getElem?_map] at hx
        cases e : (pk hd ns)[i]? with
        | none => rw [e] at hx; cases hx
        | some b => rw [e] at hx; cases hx; exact ⟨b, rfl, rfl⟩
      walk_at "go"
      rw [List.take_add_one, hb]
      exact ⟨_, by rw [show (pk hd ns).take i ++ (some b).toList = (pk hd ns).take i ++ [b] from rfl, mx_snoc]; rfl⟩
    rintro _ _ ⟨rfl, o8, rfl⟩
    rw [List.length_map, List.take_length]
    walk_at "go"
    refine ⟨d, _, rfl, .inl (SqL.of kD9), fun p10 hp10 => ?_⟩
    generalize x10 : upd H9 p10 _ = H10a
    obtain ⟨s10a, k10⟩ : Same H9 H10a ∧ H10a p10 = some (.lst ((pk hd ns).map V.int)) := by subst x10; exact ⟨Same.new hp10, upd_same⟩
    walk_at "go"
    refine ⟨p10, pk hd ns, 2 + m, rfl, SqL.of k10, by omega, by omega, fun H10 sm => ?_⟩
    have s10 := s10a.trans sm
    refine ⟨_, rfl, _, _, rfl, alI 3 _, ?_⟩
    have kT10 := s10 _ _ kT9
    have kD10 := s10 _ _ kD9
    have hS10 := s10.seq hS9
    clear x10 k10
    walk_at "go"
    refine ⟨p, ts, 6, 1000, rfl, hS10, ⟨by decide, by decide⟩, by decide, fun va a0 a1 => ?_⟩
    walk_at "go"
    refine ⟨p, ts, 7, 1000, rfl, hS10, ⟨by decide, by decide⟩, by decide, fun vb b0 b1 => ?_⟩
    walk_at "go"
    refine ⟨d, _, rfl, .inl (SqL.of kD10), ?_⟩
    simp only [List.length_map]
    refine ⟨_, _, rfl, rfl, (by show (0 : Int) < ((pk hd ns).length : Nat); omega), ?_⟩
    have hL : (0 : Int) < ((pk hd ns).length : Nat) := by omega
    have m0' := Int.emod_nonneg (va * 1000 + vb) (show (((pk hd ns).length : Nat) : Int) ≠ 0 by omega)
    have m1' := Int.emod_lt_of_pos (va * 1000 + vb) hL
    refine ⟨fun σ H' => H10 = H' ∧ ∃ k : Nat, k < (pk hd ns).length ∧ σ = [some (.ref a), some (.ref p), some (.ref t), some (.ref D2), some (.ref p3), some (.ref d), some (.int (2 + m)), some (.int (mx (2 + m) (pk hd ns))), o8, some (.int (k : Int)), none, none, none, none], ?_, ?_⟩
    · refine ⟨_, rfl, p, ts, 8, 4, rfl, hS10, ⟨by decide, by decide⟩, by decide, fun v8 c0 c1 => ?_⟩
      walk_at "go"
      refine ite2 (fun c => ?_) (fun c => ?_)
      · refine ⟨_, rfl, p, ts, 7, 8, rfl, hS10, ⟨by decide, by decide⟩, by decide, fun v9 e0 e1 => ?_⟩
        walk_at "go"
        refine ite2 (fun c => ?_) (fun c => ?_)
        · have c' : v9 - 4 < 0 := of_decide_eq_true c
          refine ⟨_, rfl, _, rfl, d, _, rfl, .inl (SqL.of kD10), ?_⟩
          simp only [List.length_map]
          walk_at "go"
          refine ⟨(v9 - 4 + ((pk hd ns).length : Nat)).toNat, by omega, ?_⟩
          rw [show (((v9 - 4 + ((pk hd ns).length : Nat)).toNat : Nat) : Int) = v9 - 4 + ((pk hd ns).length : Nat) by omega]
          rfl
        · have c' : ¬ v9 - 4 < 0 := of_decide_eq_false (Bool.eq_false_iff.mpr c)
          refine ⟨rfl, (v9 - 4).toNat, by omega, ?_⟩
          rw [show (((v9 - 4).toNat : Nat) : Int) = v9 - 4 by omega]
          rfl
      · refine ⟨rfl, ((va * 1000 + vb) % ((pk hd ns).length : Nat)).toNat, by omega, ?_⟩
        rw [show ((((va * 1000 + vb) % ((pk hd ns).length : Nat)).toNat : Nat) : Int) = (va * 1000 + vb) % ((pk hd ns).length : Nat) by omega]
        rfl
    rintro _ _ ⟨rfl, k, hk, rfl⟩
    refine ⟨_, rfl, d, _, rfl, .inl (SqL.of kD10), fun p11 hp11 => ?_⟩
    generalize x11 : upd H10 p11 _ = H11
    obtain ⟨s11, k11⟩ : Same H10 H11 ∧ H11 p11 = some (.lst ((pk hd ns).map V.int)) := by subst x11; exact ⟨Same.new hp11, upd_same⟩
    have hS11 := s11.seq hS10
    walk_at "go"
    refine ⟨p11, _, _, _, rfl, rfl, SqL.of k11, at_ints hk, ?_⟩
    walk_at "go"
    refine ⟨p, ts, 9, 255, rfl, hS11, ⟨by decide, by decide⟩, by decide, fun vc f0 f1 => ?_⟩
    walk_at "go"
    have hhB : Bys hd := hdB
    have hkb := (pk_bys hhB hI) ((pk hd ns).getD k 0) (by rw [List.getD_eq_getElem?_getD, List.getElem?_eq_getElem hk]; exact List.getElem_mem _)
    have hv0 : 0 ≤ ((pk hd ns).getD k 0 + 1 + vc) % 256 ∧ ((pk hd ns).getD k 0 + 1 + vc) % 256 ≤ 255 := by omega
    have hvn : ((pk hd ns).getD k 0 + 1 + vc) % 256 ≠ (pk hd ns).getD k 0 := by omega
    refine ⟨p11, _, _, k, rfl, rfl, k11, ixN_nat (by rw [List.length_map]; exact hk), ?_⟩
    obtain ⟨v, ev⟩ : ∃ v, v = ((pk hd ns).getD k 0 + 1 + vc) % 256 := ⟨_, rfl⟩
    generalize x12 : upd H11 p11 _ = H12
    have k12 : H12 p11 = some (.lst (((pk hd ns).set k v).map V.int)) := by subst x12; rw [upd_same, ev, List.map_set]
    have s12 : Same H10 H12 := fun c o e => by subst x12; rw [upd_ne (ne_of_none e hp11)]; exact s11 _ _ e
    rw [← ev] at hv0 hvn
    clear x12 x11 k11 hS11
    have kT12 := s12 _ _ kT10
    have kD12 := s12 _ _ kD10
    have hS12 := s12.seq hS10
    have hO : Outc hd ((pk hd ns).set k v) (.bad (if k < 4 then "head" else "check")) := by
      by_cases h4 : k < 4
      · rw [if_pos h4]; exact out_head hl h4 hvn
      · rw [if_neg h4]; exact out_check hl hhB hI (by omega) hk hv0 hvn
    have hok : PyData.strOk (if k < 4 then ("head" : Str) else "check") = true := by split <;> decide +kernel
    walk_at "go"
    refine ⟨fun σ H' => H12 = H' ∧ σ = [some (.ref a), some (.ref p), some (.ref t), some (.ref D2), some (.ref p3), some (.ref d), some (.int (2 + m)), some (.int (mx (2 + m) (pk hd ns))), o8, some (.int (k : Int)), some (.ref p11), some (.str (if k < 4 then "head" else "check")), none, none], ?_, ?_⟩
    · walk_at "go"
      by_cases h4 : k < 4
      · rw [show decide ((k : Int) < 4) = true from decide_eq_true (by omega), if_pos h4]
        walk_at "go"
        rfl
      · rw [show decide ((k : Int) < 4) = false from decide_eq_false (by omega), if_neg h4]
        exact ⟨rfl, rfl⟩
    rintro _ _ ⟨rfl, rfl⟩
    generalize (if k < 4 then ("head" : Str) else "check") = wd at hO hok
    walk_at "go"
    refine ⟨t, p11, hd, (pk hd ns).set k v, .bad wd, rfl, SqT.of kT12, SqL.of k12, hl, by rw [List.length_set]; exact hPL, (fun y hy => (List.mem_or_eq_of_mem_set hy).elim (pk_bys hhB hI y) (fun e => by rw [e]; exact hv0)), hO, fun r e => ?_, (fun ns' e => by cases e)⟩
    cases e
    refine fun t13 H13 s13' k13 => ?_
    walk_at "go"
    intro u14 hu14
    generalize x14 : upd H13 u14 _ = H14
    obtain ⟨s14, k14⟩ : Same H13 H14 ∧ H14 u14 = some (.tup [.str wd, .bl true, .bl true]) := by subst x14; exact ⟨Same.new hu14, upd_same⟩
    refine ⟨_, _, rfl, alBad hok (s14 _ _ k13) k14, ?_⟩
    have s1214 := s13'.trans s14
    have kT14 := s1214 _ _ kT12
    have kD14 := s1214 _ _ kD12
    have hS14 := s1214.seq hS12
    clear x14 k13 k14 s1214
    walk_at "go"
    refine ⟨t, _, rfl, .inr (SqT.of kT14), fun p15 hp15 => ?_⟩
    generalize x15 : upd H14 p15 _ = H15
    obtain ⟨s15, k15⟩ : Same H14 H15 ∧ H15 p15 = some (.lst (hd.map V.int)) := by subst x15; exact ⟨Same.new hp15, upd_same⟩
    have hS15 := s15.seq hS14
    walk_at "go"
    refine ⟨p, ts, 10, 4, rfl, hS15, ⟨by decide, by decide⟩, by decide, fun vd g0 g1 => ?_⟩
    obtain ⟨j, rfl⟩ := Int.eq_ofNat_of_zero_le g0
    walk_at "go"
    have hj4 : j < hd.length := by omega
    refine ⟨_, _, _, _, rfl, rfl, SqL.of k15, at_ints hj4, ?_⟩
    walk_at "go"
    have hjb := hdB (hd.getD j 0) (by rw [List.getD_eq_getElem?_getD, List.getElem?_eq_getElem hj4]; exact List.getElem_mem _)
    obtain ⟨w, ew⟩ : ∃ w, w = (hd.getD j 0 + 1) % 256 := ⟨_, rfl⟩
    have hwn : w ≠ hd.getD j 0 := by omega
    refine ⟨p15, _, _, j, rfl, rfl, k15, ixN_nat (by rw [List.length_map]; exact hj4), ?_⟩
    generalize x16 : upd H15 p15 _ = H16
    have k16 : H16 p15 = some (.lst ((hd.set j w).map V.int)) := by subst x16; rw [upd_same, ew, List.map_set]
    have s16 : Same H14 H16 := fun c o e => by subst x16; rw [upd_ne (ne_of_none e hp15)]; exact s15 _ _ e
    clear x16 x15 k15 hS15
    walk_at "go"
    refine ⟨p15, _, rfl, .inl ⟨SqL.of k16, fun t17 ht17 => ?_⟩⟩
    generalize x17 : upd H16 t17 _ = H17
    obtain ⟨s17, k17⟩ : Same H16 H17 ∧ H17 t17 = some (.tup ((hd.set j w).map V.int)) := by subst x17; exact ⟨Same.new ht17, upd_same⟩
    have s1417 := s16.trans s17
    have kT17 := s1417 _ _ kT14
    have kD17 := s1417 _ _ kD14
    have hS17 := s1417.seq hS14
    clear x17 k16
    refine ⟨_, rfl, t17, d, hd.set j w, pk hd ns, .bad "head", rfl, SqT.of k17, SqL.of kD17, by rw [List.length_set]; exact hl, hPL, pk_bys hhB hI, out_other hl (set_ne hj4 hwn), fun r e => ?_, (fun ns' e => by cases e)⟩
    cases e
    refine fun t18 H18 s18 k18 => ?_
    walk_at "go"
    intro u19 hu19
    generalize x19 : upd H18 u19 _ = H19
    obtain ⟨s19, k19⟩ : Same H18 H19 ∧ H19 u19 = some (.tup [.str "head", .bl true, .bl true]) := by subst x19; exact ⟨Same.new hu19, upd_same⟩
    refine ⟨_, _, rfl, alBad (by decide +kernel) (s19 _ _ k18) k19, ?_⟩
    have s1719 := s18.trans s19
    have kT19 := s1719 _ _ kT17
    have kD19 := s1719 _ _ kD17
    have hS19 := s1719.seq hS17
    clear x19 k18 k19 s1719
    walk_at "go"
    refine ⟨p, ts, 11, 8, rfl, hS19, ⟨by decide, by decide⟩, by decide, fun ve h0 h1 => ?_⟩
    obtain ⟨l, rfl⟩ := Int.eq_ofNat_of_zero_le h0
    refine ⟨_, rfl, d, _, rfl, SqL.of kD19, fun p20 hp20 => ?_⟩
    rw [cut_to, ← List.map_take]
    generalize x20 : upd H19 p20 _ = H20
    obtain ⟨s20, k20⟩ : Same H19 H20 ∧ H20 p20 = some (.lst (((pk hd ns).take l).map V.int)) := by subst x20; exact ⟨Same.new hp20, upd_same⟩
    have kT20 := s20 _ _ kT19
    clear x20
    refine ⟨t, p20, hd, (pk hd ns).take l, .bad "head", rfl, SqT.of kT20, SqL.of k20, hl, by rw [List.length_take]; omega, (fun y hy => pk_bys hhB hI y (List.mem_of_mem_take hy)), out_short (by omega), fun r e => ?_, (fun ns' e => by cases e)⟩
    cases e
    refine fun t21 H21 s21 k21 => ?_
    walk_at "go"
    intro u22 hu22
    generalize x22 : upd H21 u22 _ = H22
    obtain ⟨s22, k22⟩ : Same H21 H22 ∧ H22 u22 = some (.tup [.str "head", .bl true, .bl true]) := by subst x22; exact ⟨Same.new hu22, upd_same⟩
    exact ⟨_, _, rfl, alBad (by decide +kernel) (s22 _ _ k21) k22, q _⟩
end
theorem all_mk {l : PySem.W.OpenLaw} {w : World} {K : PySem.W.Frag} {h : Heap} {mg : Str → Option Value} {fa f0 f1 f2 f3 f4 f5 f6 f7 f8 f9 f10 f11 f12 f13 f14 f15 f16 f17 : Addr} (X : K.In h) (G : h.Ns mainGlobals mg) (hfa : mg "law" = some (.ref fa))
    {od0 an0 od1 an1 od2 an2 od3 an3 od4 an4 od5 an5 od6 an6 od7 an7 od8 an8 od9 an9 od10 an10 od11 an11 od12 an12 od13 an13 od14 an14 od15 an15 od16 an16 od17 an17 : Option Addr} {sl0 sl1 sl2 sl3 sl4 sl5 sl6 sl7 sl8 sl9 sl10 sl11 sl12 sl13 sl14 sl15 sl16 sl17 : Array (Option Value)} {oc0 kV0 dc0 pm0 cd0 ct0 oc1 kV1 dc1 pm1 cd1 ct1 oc2 kV2 dc2 pm2 cd2 ct2 oc3 kV3 dc3 pm3 cd3 ct3 oc4 kV4 dc4 pm4 cd4 ct4 oc5 kV5 dc5 pm5 cd5 ct5 oc6 kV6 dc6 pm6 cd6 ct6 oc7 kV7 dc7 pm7 cd7 ct7 oc8 kV8 dc8 pm8 cd8 ct8 oc9 kV9 dc9 pm9 cd9 ct9 oc10 kV10 dc10 pm10 cd10 ct10 oc11 kV11 dc11 pm11 cd11 ct11 oc12 kV12 dc12 pm12 cd12 ct12 oc13 kV13 dc13 pm13 cd13 ct13 oc14 kV14 dc14 pm14 cd14 ct14 oc15 kV15 dc15 pm15 cd15 ct15 oc16 kV16 dc16 pm16 cd16 ct16 oc17 kV17 dc17 pm17 cd17 ct17 : Value}
    (a0 : PySem.W.nsIn K mainGlobals "word_bytes" = some (some (.ref f0))) (l0 : K.lookup f0 = some ⟨oc0, od0, .func (PySem.W.fnOf "word_bytes" "word_bytes" (defArgs s_word_bytes) (defBody s_word_bytes) (defScope s_word_bytes) .none kV0 dc0 pm0 an0 cd0 ct0), sl0⟩) (c0 : PySem.W.codeIn K cd0 "word_bytes" = true) (k0 : PySem.W.keepIn K (.ref f0) = true)
    (a1 : PySem.W.nsIn K mainGlobals "mix_fours" = some (some (.ref f1))) (l1 : K.lookup f1 = some ⟨oc1, od1, .func (PySem.W.fnOf "mix_fours" "mix_fours" (defArgs s_mix_fours) (defBody s_mix_fours) (defScope s_mix_fours) .none kV1 dc1 pm1 an1 cd1 ct1), sl1⟩) (c1 : PySem.W.codeIn K cd1 "mix_fours" = true) (k1 : PySem.W.keepIn K (.ref f1) = true)
    (a2 : PySem.W.nsIn K mainGlobals "mix_behind" = some (some (.ref f2))) (l2 : K.lookup f2 = some ⟨oc2, od2, .func (PySem.W.fnOf "mix_behind" "mix_behind" (defArgs s_mix_behind) (defBody s_mix_behind) (defScope s_mix_behind) .none kV2 dc2 pm2 an2 cd2 ct2), sl2⟩) (c2 : PySem.W.codeIn K cd2 "mix_behind" = true) (k2 : PySem.W.keepIn K (.ref f2) = true)
    (a3 : PySem.W.nsIn K mainGlobals "mix" = some (some (.ref f3))) (l3 : K.lookup f3 = some ⟨oc3, od3, .func (PySem.W.fnOf "mix" "mix" (defArgs s_mix) (defBody s_mix) (defScope s_mix) .none kV3 dc3 pm3 an3 cd3 ct3), sl3⟩) (c3 : PySem.W.codeIn K cd3 "mix" = true) (k3 : PySem.W.keepIn K (.ref f3) = true)
    (a4 : PySem.W.nsIn K mainGlobals "check_bytes" = some (some (.ref f4))) (l4 : K.lookup f4 = some ⟨oc4, od4, .func (PySem.W.fnOf "check_bytes" "check_bytes" (defArgs s_check_bytes) (defBody s_check_bytes) (defScope s_check_bytes) .none kV4 dc4 pm4 an4 cd4 ct4), sl4⟩) (c4 : PySem.W.codeIn K cd4 "check_bytes" = true) (k4 : PySem.W.keepIn K (.ref f4) = true)
    (a5 : PySem.W.nsIn K mainGlobals "number_bytes" = some (some (.ref f5))) (l5 : K.lookup f5 = some ⟨oc5, od5, .func (PySem.W.fnOf "number_bytes" "number_bytes" (defArgs s_number_bytes) (defBody s_number_bytes) (defScope s_number_bytes) .none kV5 dc5 pm5 an5 cd5 ct5), sl5⟩) (c5 : PySem.W.codeIn K cd5 "number_bytes" = true) (k5 : PySem.W.keepIn K (.ref f5) = true)
    (a6 : PySem.W.nsIn K mainGlobals "pack" = some (some (.ref f6))) (l6 : K.lookup f6 = some ⟨oc6, od6, .func (PySem.W.fnOf "pack" "pack" (defArgs s_pack) (defBody s_pack) (defScope s_pack) .none kV6 dc6 pm6 an6 cd6 ct6), sl6⟩) (c6 : PySem.W.codeIn K cd6 "pack" = true) (k6 : PySem.W.keepIn K (.ref f6) = true)
    (a7 : PySem.W.nsIn K mainGlobals "numbers_of" = some (some (.ref f7))) (l7 : K.lookup f7 = some ⟨oc7, od7, .func (PySem.W.fnOf "numbers_of" "numbers_of" (defArgs s_numbers_of) (defBody s_numbers_of) (defScope s_numbers_of) .none kV7 dc7 pm7 an7 cd7 ct7), sl7⟩) (c7 : PySem.W.codeIn K cd7 "numbers_of" = true) (k7 : PySem.W.keepIn K (.ref f7) = true)
    (a8 : PySem.W.nsIn K mainGlobals "unpack" = some (some (.ref f8))) (l8 : K.lookup f8 = some ⟨oc8, od8, .func (PySem.W.fnOf "unpack" "unpack" (defArgs s_unpack) (defBody s_unpack) (defScope s_unpack) .none kV8 dc8 pm8 an8 cd8 ct8), sl8⟩) (c8 : PySem.W.codeIn K cd8 "unpack" = true) (k8 : PySem.W.keepIn K (.ref f8) = true)
    (a9 : PySem.W.nsIn K mainGlobals "_law_tape" = some (some (.ref f9))) (l9 : K.lookup f9 = some ⟨oc9, od9, .func (PySem.W.fnOf "_law_tape" "_law_tape" (defArgs s__law_tape) (defBody s__law_tape) (defScope s__law_tape) .none kV9 dc9 pm9 an9 cd9 ct9), sl9⟩) (c9 : PySem.W.codeIn K cd9 "_law_tape" = true) (k9 : PySem.W.keepIn K (.ref f9) = true)
    (a10 : PySem.W.nsIn K mainGlobals "_law_draw" = some (some (.ref f10))) (l10 : K.lookup f10 = some ⟨oc10, od10, .func (PySem.W.fnOf "_law_draw" "_law_draw" (defArgs s__law_draw) (defBody s__law_draw) (defScope s__law_draw) .none kV10 dc10 pm10 an10 cd10 ct10), sl10⟩) (c10 : PySem.W.codeIn K cd10 "_law_draw" = true) (k10 : PySem.W.keepIn K (.ref f10) = true)
    (a11 : PySem.W.nsIn K mainGlobals "_law_equal" = some (some (.ref f11))) (l11 : K.lookup f11 = some ⟨oc11, od11, .func (PySem.W.fnOf "_law_equal" "_law_equal" (defArgs s__law_equal) (defBody s__law_equal) (defScope s__law_equal) .none kV11 dc11 pm11 an11 cd11 ct11), sl11⟩) (c11 : PySem.W.codeIn K cd11 "_law_equal" = true) (k11 : PySem.W.keepIn K (.ref f11) = true)
    (a12 : PySem.W.nsIn K mainGlobals "_law_groups" = some (some (.ref f12))) (l12 : K.lookup f12 = some ⟨oc12, od12, .func (PySem.W.fnOf "_law_groups" "_law_groups" (defArgs s__law_groups) (defBody s__law_groups) (defScope s__law_groups) .none kV12 dc12 pm12 an12 cd12 ct12), sl12⟩) (c12 : PySem.W.codeIn K cd12 "_law_groups" = true) (k12 : PySem.W.keepIn K (.ref f12) = true)
    (a13 : PySem.W.nsIn K mainGlobals "_law_check" = some (some (.ref f13))) (l13 : K.lookup f13 = some ⟨oc13, od13, .func (PySem.W.fnOf "_law_check" "_law_check" (defArgs s__law_check) (defBody s__law_check) (defScope s__law_check) .none kV13 dc13 pm13 an13 cd13 ct13), sl13⟩) (c13 : PySem.W.codeIn K cd13 "_law_check" = true) (k13 : PySem.W.keepIn K (.ref f13) = true)
    (a14 : PySem.W.nsIn K mainGlobals "_law_pack" = some (some (.ref f14))) (l14 : K.lookup f14 = some ⟨oc14, od14, .func (PySem.W.fnOf "_law_pack" "_law_pack" (defArgs s__law_pack) (defBody s__law_pack) (defScope s__law_pack) .none kV14 dc14 pm14 an14 cd14 ct14), sl14⟩) (c14 : PySem.W.codeIn K cd14 "_law_pack" = true) (k14 : PySem.W.keepIn K (.ref f14) = true)
    (a15 : PySem.W.nsIn K mainGlobals "_law_big" = some (some (.ref f15))) (l15 : K.lookup f15 = some ⟨oc15, od15, .func (PySem.W.fnOf "_law_big" "_law_big" (defArgs s__law_big) (defBody s__law_big) (defScope s__law_big) .none kV15 dc15 pm15 an15 cd15 ct15), sl15⟩) (c15 : PySem.W.codeIn K cd15 "_law_big" = true) (k15 : PySem.W.keepIn K (.ref f15) = true)
    (a16 : PySem.W.nsIn K mainGlobals "_law_unpack" = some (some (.ref f16))) (l16 : K.lookup f16 = some ⟨oc16, od16, .func (PySem.W.fnOf "_law_unpack" "_law_unpack" (defArgs s__law_unpack) (defBody s__law_unpack) (defScope s__law_unpack) .none kV16 dc16 pm16 an16 cd16 ct16), sl16⟩) (c16 : PySem.W.codeIn K cd16 "_law_unpack" = true) (k16 : PySem.W.keepIn K (.ref f16) = true)
    (a17 : PySem.W.nsIn K mainGlobals "law" = some (some (.ref f17))) (l17 : K.lookup f17 = some ⟨oc17, od17, .func (PySem.W.fnOf "law" "law" (defArgs s_law) (defBody s_law) (defScope s_law) .none kV17 dc17 pm17 an17 cd17 ct17), sl17⟩) (c17 : PySem.W.codeIn K cd17 "law" = true) (k17 : PySem.W.keepIn K (.ref f17) = true)
    (z_bool : PySem.W.nsIn K mainGlobals "bool" = some none)
    (z_int : PySem.W.nsIn K mainGlobals "int" = some none)
    (z_isinstance : PySem.W.nsIn K mainGlobals "isinstance" = some none)
    (z_len : PySem.W.nsIn K mainGlobals "len" = some none)
    (z_list : PySem.W.nsIn K mainGlobals "list" = some none)
    (z_range : PySem.W.nsIn K mainGlobals "range" = some none)
    (z_str : PySem.W.nsIn K mainGlobals "str" = some none)
    (z_tuple : PySem.W.nsIn K mainGlobals "tuple" = some none)
    (z_zip : PySem.W.nsIn K mainGlobals "zip" = some none)
    {cC_HostError cC_DamagedSave cI_DamagedSave : Addr}
    (sp0 : PySem.W.specialIn K (.builtin "object.__class__") "__get__" = some (some (.builtin "getset_descriptor.__get__"))) (tk0 : PySem.W.takesIn K (.builtin "object.__class__") = some true)
    (aC_HostError : PySem.W.nsIn K mainGlobals "HostError" = some (some (.ref cC_HostError)))
    (aC_DamagedSave : PySem.W.nsIn K mainGlobals "DamagedSave" = some (some (.ref cC_DamagedSave)))
    (ex_HostError : PySem.W.subIn K (.ref cC_HostError) (.type "BaseException") = some true)
    (ty_HostError : PySem.W.typeIn K (.ref cC_HostError) = some (.type "type"))
    (hd_HostError : PySem.W.hasDictIn K cC_HostError = true)
    (ex_DamagedSave : PySem.W.subIn K (.ref cC_DamagedSave) (.type "BaseException") = some true)
    (ty_DamagedSave : PySem.W.typeIn K (.ref cC_DamagedSave) = some (.type "type"))
    (hd_DamagedSave : PySem.W.hasDictIn K cC_DamagedSave = true)
    {nm_DamagedSave qn_DamagedSave : Str} {N_DamagedSave : Addr} {bs_DamagedSave : List Value} {sn_DamagedSave : List Str} {sub_DamagedSave : List Value} {ab_DamagedSave : Bool} {col_DamagedSave : Option Bool} {dd_DamagedSave : Option Addr} {m0_DamagedSave m1_DamagedSave m2_DamagedSave m3_DamagedSave m5_DamagedSave : Option Value}
    (xl_DamagedSave : K.lookup cC_DamagedSave = some (excClassObj nm_DamagedSave qn_DamagedSave cC_DamagedSave N_DamagedSave bs_DamagedSave [.ref cC_HostError, .type "ValueError", .type "Exception", .type "BaseException", .type "object"] true sn_DamagedSave sub_DamagedSave ab_DamagedSave col_DamagedSave dd_DamagedSave m0_DamagedSave m1_DamagedSave m2_DamagedSave m3_DamagedSave m5_DamagedSave "ValueError.__new__"))
    (sa_DamagedSave : PySem.W.findIn K (.ref cC_DamagedSave) "__setattr__" = some (some (.builtin "object.__setattr__")))
    (ga_DamagedSave : PySem.W.findIn K (.ref cC_DamagedSave) "__getattribute__" = some (some (.builtin "BaseException.__getattribute__")))
    (gg_DamagedSave : PySem.W.findIn K (.ref cC_DamagedSave) "__getattr__" = some none)
    (ca_DamagedSave : PySem.W.findIn K (.ref cC_DamagedSave) "__class__" = some (some (.builtin "object.__class__")))
    (kp_DamagedSave : PySem.W.keepIn K (.ref cC_DamagedSave) = true)
    (mr_DamagedSave : PySem.W.mroIn K cC_DamagedSave (.type "object") = some true)
    {odI_DamagedSave anI_DamagedSave : Option Addr} {slI_DamagedSave : Array (Option Value)} {ocI_DamagedSave kVI_DamagedSave dcI_DamagedSave pmI_DamagedSave cdI_DamagedSave ctI_DamagedSave : Value}
    (aI_DamagedSave : PySem.W.findIn K (.ref cC_DamagedSave) "__init__" = some (some (.ref cI_DamagedSave))) (tI_DamagedSave : PySem.W.typeIn K (.ref cI_DamagedSave) = some (.type "function"))
    (lI_DamagedSave : K.lookup cI_DamagedSave = some ⟨ocI_DamagedSave, odI_DamagedSave, .func (PySem.W.fnOf "__init__" "DamagedSave.__init__" (defArgs i_DamagedSave) (defBody i_DamagedSave) (defScope i_DamagedSave) .none kVI_DamagedSave dcI_DamagedSave pmI_DamagedSave anI_DamagedSave cdI_DamagedSave ctI_DamagedSave), slI_DamagedSave⟩) (cdo_DamagedSave : PySem.W.codeIn K cdI_DamagedSave "DamagedSave.__init__" = true) (kI_DamagedSave : PySem.W.keepIn K (.ref cI_DamagedSave) = true)
    (no_DamagedSave_place : PySem.W.findIn K (.ref cC_DamagedSave) "place" = some none)
    (sub_DamagedSave_HostError : PySem.W.subIn K (.ref cC_DamagedSave) (.ref cC_HostError) = some true) (ne_DamagedSave_HostError : (Value.ref cC_DamagedSave == Value.ref cC_HostError) = false)
    (sub_DamagedSave_DamagedSave : PySem.W.subIn K (.ref cC_DamagedSave) (.ref cC_DamagedSave) = some true)
    (sub_DamagedSave_VE : PySem.W.subIn K (.ref cC_DamagedSave) (.type "ValueError") = some true)
    {ki_CHECK_MODULUS : Tok} (ai_CHECK_MODULUS : PySem.W.nsIn K mainGlobals "CHECK_MODULUS" = some (some (.int 2147483647 ki_CHECK_MODULUS)))
    {ki_CHECK_BYTES : Tok} (ai_CHECK_BYTES : PySem.W.nsIn K mainGlobals "CHECK_BYTES" = some (some (.int 4 ki_CHECK_BYTES)))
    {ki_MANY_BYTES : Tok} (ai_MANY_BYTES : PySem.W.nsIn K mainGlobals "MANY_BYTES" = some (some (.int 16 ki_MANY_BYTES)))
    : ∃ fd : FuncData, (∀ (s : Shared) (v : Value), BindsTo s fd ⟨[v], []⟩ [("script", v)]) ∧ ∀ base : Heap, K.In base → base.Ns mainGlobals mg → FnOk l.prog w K mg base CX0 7 fa fd ["script"] (sp_lawK K) := by
  have e := hfa.symm.trans (PySem.W.mg_of X G a17)
  cases e
  have FI_DamagedSave := fun_mk (st := i_DamagedSave) lI_DamagedSave cdo_DamagedSave kI_DamagedSave
  have T : Tp w K mg (⟨cC_HostError, cC_DamagedSave, cI_DamagedSave, (PySem.W.fnOf "__init__" "DamagedSave.__init__" (defArgs i_DamagedSave) (defBody i_DamagedSave) (defScope i_DamagedSave) .none kVI_DamagedSave dcI_DamagedSave pmI_DamagedSave anI_DamagedSave cdI_DamagedSave ctI_DamagedSave)⟩ : Cs) := ⟨PySem.W.mg_none_of X G z_bool, PySem.W.mg_none_of X G z_int, PySem.W.mg_none_of X G z_isinstance, PySem.W.mg_none_of X G z_len, PySem.W.mg_none_of X G z_list, PySem.W.mg_none_of X G z_range, PySem.W.mg_none_of X G z_str, PySem.W.mg_none_of X G z_tuple, PySem.W.mg_none_of X G z_zip, PySem.W.mg_of X G aC_HostError, PySem.W.mg_of X G aC_DamagedSave, ⟨PySem.W.mg_of X G aC_DamagedSave, ⟨⟨nm_DamagedSave, qn_DamagedSave, N_DamagedSave, bs_DamagedSave, _, sn_DamagedSave, sub_DamagedSave, ab_DamagedSave, col_DamagedSave, dd_DamagedSave, m0_DamagedSave, m1_DamagedSave, m2_DamagedSave, m3_DamagedSave, m5_DamagedSave, xl_DamagedSave, by rfl⟩, sa_DamagedSave, ex_DamagedSave, ty_DamagedSave, kp_DamagedSave⟩, ga_DamagedSave, gg_DamagedSave, hd_DamagedSave, ca_DamagedSave, sp0, tk0, mr_DamagedSave⟩, aI_DamagedSave, tI_DamagedSave, FI_DamagedSave, FI_DamagedSave.binds (ps := ["self", "place"]) fun _ _ _ _ _ _ us hl => match us, hl with | [_, _], _ => rfl, no_DamagedSave_place, kit_two ne_DamagedSave_HostError hd_HostError ty_HostError sub_DamagedSave_HostError, PySem.W.exm_ref ex_HostError hd_HostError ty_HostError sub_DamagedSave_HostError, kit_self, PySem.W.exm_ref ex_DamagedSave hd_DamagedSave ty_DamagedSave sub_DamagedSave_DamagedSave, kit_ve sub_DamagedSave_VE, ⟨_, PySem.W.mg_of X G ai_CHECK_MODULUS⟩, ⟨_, PySem.W.mg_of X G ai_CHECK_BYTES⟩, ⟨_, PySem.W.mg_of X G ai_MANY_BYTES⟩⟩
  have F0 := fun_mk (st := s_word_bytes) l0 c0 k0
  have D_word_bytes : Def K mg "word_bytes" s_word_bytes ["number", "count"] := ⟨_, _, F0, PySem.W.mg_of X G a0, F0.binds (ps := ["number", "count"]) fun _ _ _ _ _ _ us hl => match us, hl with | [_, _], _ => rfl⟩
  have F1 := fun_mk (st := s_mix_fours) l1 c1 k1
  have D_mix_fours : Def K mg "mix_fours" s_mix_fours ["check", "data", "modulus"] := ⟨_, _, F1, PySem.W.mg_of X G a1, F1.binds (ps := ["check", "data", "modulus"]) fun _ _ _ _ _ _ us hl => match us, hl with | [_, _, _], _ => rfl⟩
  have F2 := fun_mk (st := s_mix_behind) l2 c2 k2
  have D_mix_behind : Def K mg "mix_behind" s_mix_behind ["check", "data", "modulus"] := ⟨_, _, F2, PySem.W.mg_of X G a2, F2.binds (ps := ["check", "data", "modulus"]) fun _ _ _ _ _ _ us hl => match us, hl with | [_, _, _], _ => rfl⟩
  have F3 := fun_mk (st := s_mix) l3 c3 k3
  have D_mix : Def K mg "mix" s_mix ["data", "modulus"] := ⟨_, _, F3, PySem.W.mg_of X G a3, F3.binds (ps := ["data", "modulus"]) fun _ _ _ _ _ _ us hl => match us, hl with | [_, _], _ => rfl⟩
  have F4 := fun_mk (st := s_check_bytes) l4 c4 k4
  have D_check_bytes : Def K mg "check_bytes" s_check_bytes ["data"] := ⟨_, _, F4, PySem.W.mg_of X G a4, F4.binds (ps := ["data"]) fun _ _ _ _ _ _ us hl => match us, hl with | [_], _ => rfl⟩
  have F5 := fun_mk (st := s_number_bytes) l5 c5 k5
  have D_number_bytes : Def K mg "number_bytes" s_number_bytes ["numbers"] := ⟨_, _, F5, PySem.W.mg_of X G a5, F5.binds (ps := ["numbers"]) fun _ _ _ _ _ _ us hl => match us, hl with | [_], _ => rfl⟩
  have F6 := fun_mk (st := s_pack) l6 c6 k6
  have D_pack : Def K mg "pack" s_pack ["head", "numbers"] := ⟨_, _, F6, PySem.W.mg_of X G a6, F6.binds (ps := ["head", "numbers"]) fun _ _ _ _ _ _ us hl => match us, hl with | [_, _], _ => rfl⟩
  have F7 := fun_mk (st := s_numbers_of) l7 c7 k7
  have D_numbers_of : Def K mg "numbers_of" s_numbers_of ["data"] := ⟨_, _, F7, PySem.W.mg_of X G a7, F7.binds (ps := ["data"]) fun _ _ _ _ _ _ us hl => match us, hl with | [_], _ => rfl⟩
  have F8 := fun_mk (st := s_unpack) l8 c8 k8
  have D_unpack : Def K mg "unpack" s_unpack ["head", "data"] := ⟨_, _, F8, PySem.W.mg_of X G a8, F8.binds (ps := ["head", "data"]) fun _ _ _ _ _ _ us hl => match us, hl with | [_, _], _ => rfl⟩
  have F9 := fun_mk (st := s__law_tape) l9 c9 k9
  have D__law_tape : Def K mg "_law_tape" s__law_tape ["script"] := ⟨_, _, F9, PySem.W.mg_of X G a9, F9.binds (ps := ["script"]) fun _ _ _ _ _ _ us hl => match us, hl with | [_], _ => rfl⟩
  have F10 := fun_mk (st := s__law_draw) l10 c10 k10
  have D__law_draw : Def K mg "_law_draw" s__law_draw ["tape", "at", "many"] := ⟨_, _, F10, PySem.W.mg_of X G a10, F10.binds (ps := ["tape", "at", "many"]) fun _ _ _ _ _ _ us hl => match us, hl with | [_, _, _], _ => rfl⟩
  have F11 := fun_mk (st := s__law_equal) l11 c11 k11
  have D__law_equal : Def K mg "_law_equal" s__law_equal ["actual", "due"] := ⟨_, _, F11, PySem.W.mg_of X G a11, F11.binds (ps := ["actual", "due"]) fun _ _ _ _ _ _ us hl => match us, hl with | [_, _], _ => rfl⟩
  have F12 := fun_mk (st := s__law_groups) l12 c12 k12
  have D__law_groups : Def K mg "_law_groups" s__law_groups ["number"] := ⟨_, _, F12, PySem.W.mg_of X G a12, F12.binds (ps := ["number"]) fun _ _ _ _ _ _ us hl => match us, hl with | [_], _ => rfl⟩
  have F13 := fun_mk (st := s__law_check) l13 c13 k13
  have D__law_check : Def K mg "_law_check" s__law_check ["data"] := ⟨_, _, F13, PySem.W.mg_of X G a13, F13.binds (ps := ["data"]) fun _ _ _ _ _ _ us hl => match us, hl with | [_], _ => rfl⟩
  have F14 := fun_mk (st := s__law_pack) l14 c14 k14
  have D__law_pack : Def K mg "_law_pack" s__law_pack ["head", "numbers"] := ⟨_, _, F14, PySem.W.mg_of X G a14, F14.binds (ps := ["head", "numbers"]) fun _ _ _ _ _ _ us hl => match us, hl with | [_, _], _ => rfl⟩
  have F15 := fun_mk (st := s__law_big) l15 c15 k15
  have D__law_big : Def K mg "_law_big" s__law_big ["tape", "at"] := ⟨_, _, F15, PySem.W.mg_of X G a15, F15.binds (ps := ["tape", "at"]) fun _ _ _ _ _ _ us hl => match us, hl with | [_, _], _ => rfl⟩
  have F16 := fun_mk (st := s__law_unpack) l16 c16 k16
  have D__law_unpack : Def K mg "_law_unpack" s__law_unpack ["head", "data"] := ⟨_, _, F16, PySem.W.mg_of X G a16, F16.binds (ps := ["head", "data"]) fun _ _ _ _ _ _ us hl => match us, hl with | [_, _], _ => rfl⟩
  have F17 := fun_mk (st := s_law) l17 c17 k17
  refine ⟨PySem.W.fnOf "law" "law" (defArgs s_law) (defBody s_law) (defScope s_law) .none kV17 dc17 pm17 an17 cd17 ct17, fun s v => .of_eq rfl, fun base _ _ => ?_⟩
  have C__law_tape : Cal l.prog w K mg base CX0 1 "_law_tape" (sp__law_tape K (⟨cC_HostError, cC_DamagedSave, cI_DamagedSave, (PySem.W.fnOf "__init__" "DamagedSave.__init__" (defArgs i_DamagedSave) (defBody i_DamagedSave) (defScope i_DamagedSave) .none kVI_DamagedSave dcI_DamagedSave pmI_DamagedSave anI_DamagedSave cdI_DamagedSave ctI_DamagedSave)⟩ : Cs)) := c__law_tape D__law_tape T 
  have C_number_bytes : Cal l.prog w K mg base CX0 1 "number_bytes" (sp_number_bytes K (⟨cC_HostError, cC_DamagedSave, cI_DamagedSave, (PySem.W.fnOf "__init__" "DamagedSave.__init__" (defArgs i_DamagedSave) (defBody i_DamagedSave) (defScope i_DamagedSave) .none kVI_DamagedSave dcI_DamagedSave pmI_DamagedSave anI_DamagedSave cdI_DamagedSave ctI_DamagedSave)⟩ : Cs)) := c_number_bytes D_number_bytes T 
  have C_word_bytes : Cal l.prog w K mg base CX0 1 "word_bytes" (sp_word_bytes K (⟨cC_HostError, cC_DamagedSave, cI_DamagedSave, (PySem.W.fnOf "__init__" "DamagedSave.__init__" (defArgs i_DamagedSave) (defBody i_DamagedSave) (defScope i_DamagedSave) .none kVI_DamagedSave dcI_DamagedSave pmI_DamagedSave anI_DamagedSave cdI_DamagedSave ctI_DamagedSave)⟩ : Cs)) := c_word_bytes D_word_bytes T 
  have C_mix_fours : Cal l.prog w K mg base CX0 1 "mix_fours" (sp_mix_fours K (⟨cC_HostError, cC_DamagedSave, cI_DamagedSave, (PySem.W.fnOf "__init__" "DamagedSave.__init__" (defArgs i_DamagedSave) (defBody i_DamagedSave) (defScope i_DamagedSave) .none kVI_DamagedSave dcI_DamagedSave pmI_DamagedSave anI_DamagedSave cdI_DamagedSave ctI_DamagedSave)⟩ : Cs)) := c_mix_fours D_mix_fours T 
  have C_mix_behind : Cal l.prog w K mg base CX0 2 "mix_behind" (sp_mix_behind K (⟨cC_HostError, cC_DamagedSave, cI_DamagedSave, (PySem.W.fnOf "__init__" "DamagedSave.__init__" (defArgs i_DamagedSave) (defBody i_DamagedSave) (defScope i_DamagedSave) .none kVI_DamagedSave dcI_DamagedSave pmI_DamagedSave anI_DamagedSave cdI_DamagedSave ctI_DamagedSave)⟩ : Cs)) := c_mix_behind D_mix_behind T C_mix_fours
  have C_mix : Cal l.prog w K mg base CX0 3 "mix" (sp_mix K (⟨cC_HostError, cC_DamagedSave, cI_DamagedSave, (PySem.W.fnOf "__init__" "DamagedSave.__init__" (defArgs i_DamagedSave) (defBody i_DamagedSave) (defScope i_DamagedSave) .none kVI_DamagedSave dcI_DamagedSave pmI_DamagedSave anI_DamagedSave cdI_DamagedSave ctI_DamagedSave)⟩ : Cs)) := c_mix D_mix T C_mix_behind
  have C_check_bytes : Cal l.prog w K mg base CX0 4 "check_bytes" (sp_check_bytes K (⟨cC_HostError, cC_DamagedSave, cI_DamagedSave, (PySem.W.fnOf "__init__" "DamagedSave.__init__" (defArgs i_DamagedSave) (defBody i_DamagedSave) (defScope i_DamagedSave) .none kVI_DamagedSave dcI_DamagedSave pmI_DamagedSave anI_DamagedSave cdI_DamagedSave ctI_DamagedSave)⟩ : Cs)) := c_check_bytes D_check_bytes T C_word_bytes C_mix
  have C_pack : Cal l.prog w K mg base CX0 5 "pack" (sp_pack K (⟨cC_HostError, cC_DamagedSave, cI_DamagedSave, (PySem.W.fnOf "__init__" "DamagedSave.__init__" (defArgs i_DamagedSave) (defBody i_DamagedSave) (defScope i_DamagedSave) .none kVI_DamagedSave dcI_DamagedSave pmI_DamagedSave anI_DamagedSave cdI_DamagedSave ctI_DamagedSave)⟩ : Cs)) := c_pack D_pack T C_number_bytes C_check_bytes
  have C__law_draw : Cal l.prog w K mg base CX0 1 "_law_draw" (sp__law_draw K (⟨cC_HostError, cC_DamagedSave, cI_DamagedSave, (PySem.W.fnOf "__init__" "DamagedSave.__init__" (defArgs i_DamagedSave) (defBody i_DamagedSave) (defScope i_DamagedSave) .none kVI_DamagedSave dcI_DamagedSave pmI_DamagedSave anI_DamagedSave cdI_DamagedSave ctI_DamagedSave)⟩ : Cs)) := c__law_draw D__law_draw T 
  have C__law_equal : Cal l.prog w K mg base CX0 5 "_law_equal" (sp__law_equal K (⟨cC_HostError, cC_DamagedSave, cI_DamagedSave, (PySem.W.fnOf "__init__" "DamagedSave.__init__" (defArgs i_DamagedSave) (defBody i_DamagedSave) (defScope i_DamagedSave) .none kVI_DamagedSave dcI_DamagedSave pmI_DamagedSave anI_DamagedSave cdI_DamagedSave ctI_DamagedSave)⟩ : Cs) 3) := c__law_equal D__law_equal T  3
  have C__law_big : Cal l.prog w K mg base CX0 2 "_law_big" (sp__law_big K (⟨cC_HostError, cC_DamagedSave, cI_DamagedSave, (PySem.W.fnOf "__init__" "DamagedSave.__init__" (defArgs i_DamagedSave) (defBody i_DamagedSave) (defScope i_DamagedSave) .none kVI_DamagedSave dcI_DamagedSave pmI_DamagedSave anI_DamagedSave cdI_DamagedSave ctI_DamagedSave)⟩ : Cs)) := c__law_big D__law_big T C__law_draw
  have C_numbers_of : Cal l.prog w K mg base (L2.CX l.prog w) 3 "numbers_of" (sp_numbers_of K (⟨cC_HostError, cC_DamagedSave, cI_DamagedSave, (PySem.W.fnOf "__init__" "DamagedSave.__init__" (defArgs i_DamagedSave) (defBody i_DamagedSave) (defScope i_DamagedSave) .none kVI_DamagedSave dcI_DamagedSave pmI_DamagedSave anI_DamagedSave cdI_DamagedSave ctI_DamagedSave)⟩ : Cs)) := c_numbers_of D_numbers_of T 
  have C_unpack : Cal l.prog w K mg base (L2.CX l.prog w) 5 "unpack" (sp_unpack K (⟨cC_HostError, cC_DamagedSave, cI_DamagedSave, (PySem.W.fnOf "__init__" "DamagedSave.__init__" (defArgs i_DamagedSave) (defBody i_DamagedSave) (defScope i_DamagedSave) .none kVI_DamagedSave dcI_DamagedSave pmI_DamagedSave anI_DamagedSave cdI_DamagedSave ctI_DamagedSave)⟩ : Cs)) := c_unpack D_unpack T C_numbers_of C_check_bytes
  have C__law_unpack : Cal l.prog w K mg base CX0 6 "_law_unpack" (sp__law_unpack K (⟨cC_HostError, cC_DamagedSave, cI_DamagedSave, (PySem.W.fnOf "__init__" "DamagedSave.__init__" (defArgs i_DamagedSave) (defBody i_DamagedSave) (defScope i_DamagedSave) .none kVI_DamagedSave dcI_DamagedSave pmI_DamagedSave anI_DamagedSave cdI_DamagedSave ctI_DamagedSave)⟩ : Cs)) := c__law_unpack D__law_unpack T C_unpack
  have C__law_check : Cal l.prog w K mg base CX0 1 "_law_check" (sp__law_check K (⟨cC_HostError, cC_DamagedSave, cI_DamagedSave, (PySem.W.fnOf "__init__" "DamagedSave.__init__" (defArgs i_DamagedSave) (defBody i_DamagedSave) (defScope i_DamagedSave) .none kVI_DamagedSave dcI_DamagedSave pmI_DamagedSave anI_DamagedSave cdI_DamagedSave ctI_DamagedSave)⟩ : Cs)) := c__law_check D__law_check T 
  have C__law_groups : Cal l.prog w K mg base CX0 1 "_law_groups" (sp__law_groups K (⟨cC_HostError, cC_DamagedSave, cI_DamagedSave, (PySem.W.fnOf "__init__" "DamagedSave.__init__" (defArgs i_DamagedSave) (defBody i_DamagedSave) (defScope i_DamagedSave) .none kVI_DamagedSave dcI_DamagedSave pmI_DamagedSave anI_DamagedSave cdI_DamagedSave ctI_DamagedSave)⟩ : Cs)) := c__law_groups D__law_groups T 
  have C__law_pack : Cal l.prog w K mg base CX0 2 "_law_pack" (sp__law_pack K (⟨cC_HostError, cC_DamagedSave, cI_DamagedSave, (PySem.W.fnOf "__init__" "DamagedSave.__init__" (defArgs i_DamagedSave) (defBody i_DamagedSave) (defScope i_DamagedSave) .none kVI_DamagedSave dcI_DamagedSave pmI_DamagedSave anI_DamagedSave cdI_DamagedSave ctI_DamagedSave)⟩ : Cs)) := c__law_pack D__law_pack T C__law_check C__law_groups
  exact c_law F17 T C__law_tape C_pack C__law_draw C__law_equal C__law_big C__law_unpack C_mix C__law_pack
theorem walk {l : PySem.W.OpenLaw} {q : Program} {loose : List Str} {XP : (Str → Option Value) → Heap → Prop} {YP : World → Heap → Prop} {d : DefRec} {K : Params → PySem.W.Frag} (hn : l.most = some 63) (hdf : d.params.defaults = [])
    (hY : ∀ (w : World) (h : Heap), YP w h → (K w.params).In h)
    (F : ∀ (w : World) (mg : Str → Option Value) (fa : Addr) (h : Heap), (K w.params).In h → h.Ns mainGlobals mg → mg d.name = some (.ref fa) →
      ∃ fd : FuncData, (∀ (s : Shared) (u : Value), BindsTo s fd ⟨[u], []⟩ [("script", u)]) ∧ ∀ base : Heap, (K w.params).In base → base.Ns mainGlobals mg → FnOk l.prog w (K w.params) mg base CX0 7 fa fd ["script"] (sp_lawK (K w.params))) :
    PySem.W.WalkO q loose XP YP l.row.toRowW d [] (fun f vs => PySem.call f vs) :=
  L2.walk_of (n := 63) (k := 7) (x := "script") (CX := fun _ => CX0) (sp := fun w => sp_lawK (K w.params)) hn (by decide) hdf ⟨rfl, by decide, by decide⟩ hY F (fun _ _ a ns hl _ hS => ⟨a, ns, rfl, hS, hl, fun _ => rfl⟩) fun _ _ _ _ _ z => z
end V
open PySem PySem.W PyProof.Rows
set_option maxRecDepth 100000 in
set_option maxHeartbeats 0 in
theorem PySem.Challenge.cw_wasmhost_k74_packed_numbers_come_back_holds : PySem.Challenge.rw_wasmhost_k74_packed_numbers_come_back.Holds := by
  w_on; o_law; k_head; (case hw => w_witness2)
  k_fill
  refine V.walk (l := PySem.Challenge.rw_wasmhost_k74_packed_numbers_come_back) rfl rfl (fun w h Y => PySem.W.kIn_of Y) ?F
  case F =>
    intro w mg fa h KX G hmg
    refine' V.all_mk KX G hmg ?a0 ?l0 ?c0 ?k0 ?a1 ?l1 ?c1 ?k1 ?a2 ?l2 ?c2 ?k2 ?a3 ?l3 ?c3 ?k3 ?a4 ?l4 ?c4 ?k4 ?a5 ?l5 ?c5 ?k5 ?a6 ?l6 ?c6 ?k6 ?a7 ?l7 ?c7 ?k7 ?a8 ?l8 ?c8 ?k8 ?a9 ?l9 ?c9 ?k9 ?a10 ?l10 ?c10 ?k10 ?a11 ?l11 ?c11 ?k11 ?a12 ?l12 ?c12 ?k12 ?a13 ?l13 ?c13 ?k13 ?a14 ?l14 ?c14 ?k14 ?a15 ?l15 ?c15 ?k15 ?a16 ?l16 ?c16 ?k16 ?a17 ?l17 ?c17 ?k17 ?z_bool ?z_int ?z_isinstance ?z_len ?z_list ?z_range ?z_str ?z_tuple ?z_zip ?sp0 ?tk0 ?aC_HostError ?aC_DamagedSave ?ex_HostError ?ty_HostError ?hd_HostError ?ex_DamagedSave ?ty_DamagedSave ?hd_DamagedSave ?xl_DamagedSave ?sa_DamagedSave ?ga_DamagedSave ?gg_DamagedSave ?ca_DamagedSave ?kp_DamagedSave ?mr_DamagedSave ?aI_DamagedSave ?tI_DamagedSave ?lI_DamagedSave ?cdo_DamagedSave ?kI_DamagedSave ?no_DamagedSave_place ?sub_DamagedSave_HostError ?ne_DamagedSave_HostError ?sub_DamagedSave_DamagedSave ?sub_DamagedSave_VE ?ai_CHECK_MODULUS ?ai_CHECK_BYTES ?ai_MANY_BYTES
    (case a0 => k_is)
    (case l0 => k_is)
    (case c0 => k_is)
    (case k0 => k_is)
    (case a1 => k_is)
    (case l1 => k_is)
    (case c1 => k_is)
    (case k1 => k_is)
    (case a2 => k_is)
    (case l2 => k_is)
    (case c2 => k_is)
    (case k2 => k_is)
    (case a3 => k_is)
    (case l3 => k_is)
    (case c3 => k_is)
    (case k3 => k_is)
    (case a4 => k_is)
    (case l4 => k_is)
    (case c4 => k_is)
    (case k4 => k_is)
    (case a5 => k_is)
    (case l5 => k_is)
    (case c5 => k_is)
    (case k5 => k_is)
    (case a6 => k_is)
    (case l6 => k_is)
    (case c6 => k_is)
    (case k6 => k_is)
    (case a7 => k_is)
    (case l7 => k_is)
    (case c7 => k_is)
    (case k7 => k_is)
    (case a8 => k_is)
    (case l8 => k_is)
    (case c8 => k_is)
    (case k8 => k_is)
    (case a9 => k_is)
    (case l9 => k_is)
    (case c9 => k_is)
    (case k9 => k_is)
    (case a10 => k_is)
    (case l10 => k_is)
    (case c10 => k_is)
    (case k10 => k_is)
    (case a11 => k_is)
    (case l11 => k_is)
    (case c11 => k_is)
    (case k11 => k_is)
    (case a12 => k_is)
    (case l12 => k_is)
    (case c12 => k_is)
    (case k12 => k_is)
    (case a13 => k_is)
    (case l13 => k_is)
    (case c13 => k_is)
    (case k13 => k_is)
    (case a14 => k_is)
    (case l14 => k_is)
    (case c14 => k_is)
    (case k14 => k_is)
    (case a15 => k_is)
    (case l15 => k_is)
    (case c15 => k_is)
    (case k15 => k_is)
    (case a16 => k_is)
    (case l16 => k_is)
    (case c16 => k_is)
    (case k16 => k_is)
    (case a17 => k_is)
    (case l17 => k_is)
    (case c17 => k_is)
    (case k17 => k_is)
    (case z_bool => k_is)
    (case z_int => k_is)
    (case z_isinstance => k_is)
    (case z_len => k_is)
    (case z_list => k_is)
    (case z_range => k_is)
    (case z_str => k_is)
    (case z_tuple => k_is)
    (case z_zip => k_is)
    (case sp0 => k_is)
    (case tk0 => k_is)
    (case aC_HostError => k_is)
    (case aC_DamagedSave => k_is)
    (case ex_HostError => k_is)
    (case ty_HostError => k_is)
    (case hd_HostError => k_is)
    (case ex_DamagedSave => k_is)
    (case ty_DamagedSave => k_is)
    (case hd_DamagedSave => k_is)
    (case xl_DamagedSave => k_is)
    (case sa_DamagedSave => k_is)
    (case ga_DamagedSave => k_is)
    (case gg_DamagedSave => k_is)
    (case ca_DamagedSave => k_is)
    (case kp_DamagedSave => k_is)
    (case mr_DamagedSave => k_is)
    (case aI_DamagedSave => k_is)
    (case tI_DamagedSave => k_is)
    (case lI_DamagedSave => k_is)
    (case cdo_DamagedSave => k_is)
    (case kI_DamagedSave => k_is)
    (case no_DamagedSave_place => k_is)
    (case sub_DamagedSave_HostError => first | rfl | k_is)
    (case ne_DamagedSave_HostError => decide)
    (case sub_DamagedSave_DamagedSave => first | rfl | k_is)
    (case sub_DamagedSave_VE => first | rfl | k_is)
    (case ai_CHECK_MODULUS => k_is)
    (case ai_CHECK_BYTES => k_is)
    (case ai_MANY_BYTES => k_is)
#print axioms PySem.Challenge.cw_wasmhost_k74_packed_numbers_come_back_holds


