import Derived.Laws.AppendOwnNone
import Derived.Laws.BytesArg
import Derived.Lib.SlBytesConst
import Derived.IntWalk
import Derived.Laws.CopyRow
import Derived.Laws.IdiomCopy
import Derived.Laws.Rows
import Derived.Laws.Tables
import Derived.Laws.ResultCell
import Derived.Test.YtmfapopclbnlpaaGreatDoorSt8
import Derived.Test.YtmfapopclbnlpaaGreatDoorSt9
set_option linter.unusedVariables false
set_option linter.unusedSimpArgs false
namespace Go.Proofs.YtmfapopclbnlpaaGreatDoor
open Go.RowKit
section
def gF(P:Program)(t e:TypeId)(z:Value)(bytes:Nat):Prop:=
 P.underlying t=some (.slice e)∧∃i:TypeInfo,P.info? e=some i∧i.zero=some z∧i.size=1∧i.bytes=bytes∧z.cells.size=1
def Own(w:World)(B:Nat)(e:TypeId)(v:Value)(xs:List Value):Prop:=w.ownsRow B e 1 v xs.length xs
theorem Own.nil(w:World)(B:Nat)(e:TypeId):Own w B e (.slice none 0 0) []:=World.ownsRow_nil w B e 1
theorem Own.kept {w w':World}{B:Nat}{e:TypeId}{v:Value}{xs:List Value}{row:Option Nat}(h:Own w B e v xs)(hg:w.grownBy w' row)(hne:v.ownBlock=none∨v.ownBlock≠row):Own w' B e v xs:=World.ownsRow.kept h hg hne
theorem kI {a b c:World}{row:Option Nat}(h:a.grownBy b row)(k:b.grownBy c row):a.grownBy c row:=
 ⟨k.os.trans h.os,k.tape.trans h.tape,k.output.trans h.output,Nat.le_trans h.size k.size,fun i hi hr=>(k.block i (Nat.lt_of_lt_of_le hi h.size) hr).trans (h.block i hi hr)⟩
theorem Own.base {w:World}{B B':Nat}{e:TypeId}{v:Value}{xs:List Value}(h:Own w B e v xs)(hB:B'≤B):Own w B' e v xs:=by
 refine ⟨h.1,?_⟩
 rcases h.2 with hn|⟨g,cap,cur,hv,hg,r⟩
 ·exact .inl hn
 ·exact .inr ⟨g,cap,cur,hv,Nat.le_trans hB hg,r⟩
theorem Own.row {w:World}{B:Nat}{e:TypeId}{v:Value}{xs:List Value}(h:Own w B e v xs):∀k,v.ownBlock=some k→B≤k∧k<w.heap.size:=World.ownsRow.lt h
theorem Own.below {w w':World}{B:Nat}{e:TypeId}{v:Value}{xs:List Value}(h:Own w B e v xs)(hw:Below w.heap.size w w'):Own w' B e v xs:=by
 refine ⟨h.1,?_⟩
 rcases h.2 with hn|⟨g,cap,cur,hv,hg,hh,r⟩
 ·exact .inl hn
 ·exact .inr ⟨g,cap,cur,hv,hg,by rw [hw.block g (Array.getElem?_eq_some_iff.1 hh).1];exact hh,r⟩
theorem Own.drew {w:World}{B:Nat}{e:TypeId}{v:Value}{xs:List Value}(h:Own w B e v xs)(n:Nat):Own (w.drewN n) B e v xs:=h
theorem Own.Lu {w:World}{B:Nat}{e:TypeId}{v:Value}{xs:List Value}(h:Own w B e v xs){f:Nat→Value}(hf:∀i,i<xs.length→xs[i]?=some (f i)):je w v xs.length f:=by
 have hh:=h
 rcases h.2 with⟨hv,hn⟩|⟨g,cap,cur,hv,hg,hb,hnc,hcm,hcs,ht⟩
 ·exact ⟨none,0,by rw [hv,hn],by omega,by unfold maxLen;omega,fun _=>rfl,fun h0=>by omega⟩
 ·refine ⟨some ⟨g,0,none⟩,cap,hv,hnc,hcm,(fun h=>by cases h),fun h0=>⟨g,0,rfl,fun i hi=>?_⟩⟩
  have:=World.ownsRow.cells hh (g:=g) (by rw [hv];rfl) i (f i) (hf i hi)
  rw [addr_add]at this
  simpa using this
theorem Own.LY {w:World}{B:Nat}{v:Value}{l:List UInt8}{e:TypeId}(h:Own w B e v (l.map fb)):oF w v l:=by
 have:=h.Lu (f:=nD l) (by intro i hi;simp at hi;simp [nD,aD,fb,hi,List.getD])
 exact (by simpa using this:je w v l.length (nD l))
theorem Own.LZ {w:World}{B:Nat}{v:Value}{l:List Int}{e:TypeId}(h:Own w B e v (l.map (Value.int .i32))):xa w v l:=by
 have:=h.Lu (f:=w9 l) (by intro i hi;simp at hi;simp [w9,hi,List.getD])
 exact (by simpa using this:je w v l.length (w9 l))
section
variable {P:Program} {ops:Array Oper} {rest:List Oper} {o:Oper} {a:Act} {Q:Exit→Act→World→Prop}
theorem eI {w:World}(hw:Region.wanted o (yielded ops a.tmps)=true)
 (h:∀K:Act→World→Prop,(∀a w,wpList P ops Q rest a w→K a w)→o.wp P a w K Q):wpList P ops Q (o::rest) a w:=
 wpList_step fun K hK=>by simp only [hw,if_true];exact h K hK
theorem dv(w:World)(hw:Region.wanted o (yielded ops a.tmps)=true)(s x:Operand)(t:TypeId)(ho:o.op=.call {callee:=.builtin .append,args:=#[s,x],argTypes:=#[t,t]})
 (B:Nat) (e:TypeId) (z:Value) (bytes:Nat) (he:gF P t e z bytes) (v:Value) (xs:List Value) (hs:a.eval s=v) (hown:Own w B e v xs)
 (cs:Array Value) (n c:Nat) (hx:a.eval x=.slice (some ⟨w.heap.size,0,none⟩) n c) (hn:cs.toList.length=n) (h1:∀u∈cs.toList,u.oneCell'=true)
 (hlen:(xs.length+n)*bytes≤140737488355328) (hb:xs.length+n≤9223372036854775807) (hB:B≤w.heap.size)
 (h:∀v' w',Own w' B e v' (xs++cs.toList)→w.grownBy w' v.ownBlock→wpList P ops Q rest (a.put o.dst v') w'):wpList P ops Q (o::rest) a (w.alloc (.cells cs e)):=by
 obtain ⟨ht,i,hi,hz,hs1,hby,hzc⟩:=he
 refine eI hw fun K hK=>wp_append_own _ s x t ho B e i z 1 bytes ht hi hz hs1 hby hzc (by decide) v xs.length xs hs (World.ownsRow.alloc hown _) ⟨w.heap.size,0,none⟩ n c cs.toList hx (by omega) ?_ h1 ?_ hlen ?_ ?_
 ·intro j u hj
  have:=cell_of_row (w.alloc (.cells cs e)) w.heap.size j cs e (0,0) (heap_alloc_new w _)
  rw [addr_add,this]
  simpa using hj
 ·unfold maxLen;omega
 ·simp;omega
 ·intro v' w' h2 h3 _
  refine hK _ _ (h v' w' ?_ (kI (World.grownBy_alloc w _ _) h3))
  unfold Own
  rw [List.length_append,hn]
  exact h2
theorem gm(w:World)(hw:Region.wanted o (yielded ops a.tmps)=true)(l c:Operand)(t:TypeId)(hop:o.op=Op.makeSlice t l c)
 (B:Nat)(e:TypeId)(z:Value)(bytes:Nat)(he:gF P t e z bytes)(kl kc:IntKind)(C:Int)(n:Nat)(hl:a.eval l=.int kl 0)(hc:a.eval c=.int kc C)(hC:C=(n:Int))
 (b2:bytes*n≤281474976710656)(b3:n≤9223372036854775807)(hB:B≤w.heap.size)
 (h:∀w',Own w' B e (.slice (some ⟨w.heap.size,0,none⟩) 0 n) []→w.grownBy w' none→wpList P ops Q rest (a.put o.dst (.slice (some ⟨w.heap.size,0,none⟩) 0 n)) w'):wpList P ops Q (o::rest) a w:=by
 obtain ⟨ht,i,hi,hz,hs1,hby,hzc⟩:=he
 refine eI hw fun K hK'=>?_
 obtain ⟨w',hrun,r1,r2⟩:=run_make_own (P:=P) w B t e i z 1 ht hi hz hs1 kl kc n (by rw [hby];exact b2) (by unfold maxLen;omega) hB
 subst hC
 unfold Oper.wp
 simp [execOp,hop,hl,hc,hrun,Result.andThen]
 exact hK' _ _ (h w' r1 r2)
theorem C0(w:World)(s d e:TypeId)(hs:P.underlying s=some (.slice e))(he:P.underlying e=some (.int .u8))(hd:P.underlying d=some .string)(v:Value)(l:List UInt8)(hv:oF w v l):
 (convert s d v).run P w=.ok (.string ⟨l.toArray⟩) w:=by
 obtain ⟨ad,cap,rfl,hc1,hc2,hc0,hc3⟩:=hv
 have hst:strOfNums (l.map fun b=>(b.toNat:Int))=⟨l.toArray⟩:=by
  apply ByteArray.ext
  apply Array.ext'
  rw [strOfNums_data,List.map_map]
  show _=l
  conv=>rhs;rw [←List.map_id l]
  apply List.map_congr_left
  intro b _
  simp
 cases ad with
 |none=>
  have hcap:=hc0 rfl
  subst hcap
  have hl:l=[]:=List.eq_nil_of_length_eq_zero (by omega)
  subst hl
  rw [run_convert_bytes_nil (P:=P) (w:=w) s e hs he _ _ d hd];rfl
 |some ad=>
  by_cases hl:0<l.length
  ·obtain ⟨b,off,hab,hc⟩:=hc3 hl
   cases hab
   rw [run_convert_bytes_arg (P:=P) (w:=w) s e hs he b off l.length cap (l.map fun b=>(b.toNat:Int)) (by simp) (fun i hi=>by rw [hc i hi];simp [nD,aD,List.getD,hi]) d hd,hst]
  ·have hl:l=[]:=List.eq_nil_of_length_eq_zero (by omega)
   subst hl
   obtain ⟨b,off,spot⟩:=ad
   have hcl:(loadCells (⟨b,off,spot⟩:Addr) 0).run P w=.ok #[] w:=by simp [loadCells,loadCellsFrom]
   simp [convert,run_underlying hs,run_underlying he,run_underlying hd,Conv.bytesToString,hcl]
   rfl
theorem jf(w:World)(hw:Region.wanted o (yielded ops a.tmps)=true)(s d:TypeId)(x:Operand)(hop:o.op=Op.convert s d x)(e:TypeId)
 (hs:P.underlying s=some (.slice e))(he:P.underlying e=some (.int .u8))(hd:P.underlying d=some .string)(v:Value)(hx:a.eval x=v)(l:List UInt8)(hv:oF w v l)
 (h:wpList P ops Q rest (a.put o.dst (.string ⟨l.toArray⟩)) w):wpList P ops Q (o::rest) a w:=by
 refine eI hw fun K hK=>?_
 have hrun:=C0 (P:=P) w s d e hs he hd v l hv
 unfold Oper.wp
 simp [execOp,hop,hx,hrun,Result.andThen]
 exact hK _ _ h
theorem Own.lit(w:World)(B:Nat)(e:TypeId)(cs:Array Value)(n:Nat)(hn:cs.toList.length=n)(hB:B≤w.heap.size)(hm:n≤9223372036854775807):
 Own (w.alloc (.cells cs e)) B e (.slice (some ⟨w.heap.size,0,none⟩) n n) cs.toList:=by
 subst hn
 exact ⟨by simp,.inr ⟨w.heap.size,_,cs,rfl,hB,heap_alloc_new w _,Nat.le_refl _,by unfold maxLen;omega,by simp,by simp;exact List.take_of_length_le (by simp)⟩⟩
end
end
theorem Kw(l:List UInt8)(i:Nat)(h:i<(⟨l.toArray⟩:ByteArray).size):(((⟨l.toArray⟩:ByteArray)[i]'h).toNat:Int)=aD l i:=by
 have hi:i<l.length:=by simpa [ByteArray.size]using h
 unfold aD
 have e:(⟨l.toArray⟩:ByteArray)[i]'h=l[i]:=by
  show(l.toArray)[i]'_=_
  simp
 rw [e];simp [List.getD,hi]
theorem xc(l:List UInt8)(a b:Nat):(⟨l.toArray⟩:ByteArray).extract a b=⟨((l.take b).drop a).toArray⟩:=by
 apply ByteArray.ext
 simp [ByteArray.data_extract,List.extract_eq_take_drop,List.drop_take]
theorem Fu(l:List UInt8):∀(n i:Nat) (r:List UInt8),l.length-i=n→i≤l.length→ByteArray.toList.loop ⟨l.toArray⟩ i r=r.reverse++l.drop i:=by
 intro n
 induction n with
 |zero=>
  intro i r h1 h2
  rw [ByteArray.toList.loop,if_neg (by simp [ByteArray.size];omega),List.drop_of_length_le (by omega),List.append_nil]
 |succ n ih=>
  intro i r h1 h2
  have hi:i<l.length:=by omega
  rw [ByteArray.toList.loop,if_pos (by simp [ByteArray.size];omega),ih (i+1) _ (by omega) (by omega),List.drop_eq_getElem_cons hi]
  have e:(⟨l.toArray⟩:ByteArray).get! i=l[i]:=by
   show(l.toArray)[i]! =_
   simp [hi]
  rw [e];simp
theorem zy(l:List UInt8):(⟨l.toArray⟩:ByteArray).toList=l:=by
 unfold ByteArray.toList
 rw [Fu l l.length 0 [] (by omega) (by omega)];rfl
theorem fc(l:List UInt8):(⟨l.toArray⟩:ByteArray).size=l.length:=by simp [ByteArray.size]
theorem zz(a b:List UInt8):(⟨a.toArray⟩:ByteArray)++⟨b.toArray⟩=⟨(a++b).toArray⟩:=by
 apply ByteArray.ext;simp
attribute [simp,go_sem] Kw xc zy fc zz
def rY(c:Int):Int:=if c/32 %2=1 then c else c+32
theorem tg(c:Int)(h0:0≤c)(h1:c≤255):bits .or .u8 c 32=rY c:=by
 rw [u8_or c 32 h0 (by omega) (by decide) (by decide)]
 obtain ⟨n,rfl⟩:=Int.eq_ofNat_of_zero_le h0
 have hn:n<256:=by omega
 have key:∀m:Fin 256,((m.val|||32:Nat):Int)=rY (m.val:Int):=by decide+kernel
 exact key ⟨n,hn⟩
theorem Ik(c:Int)(h0:0≤c)(h1:c≤255):0≤rY c∧rY c≤255:=by unfold rY;split<;>omega
def C3(c:Int):Bool:=decide (97≤c∧c≤122)||decide (65≤c∧c≤90)
theorem Il(c:Int)(h0:0≤c)(h1:c≤255):C3 c=decide (97≤rY c∧rY c≤122):=by
 unfold C3 rY
 rw [Bool.eq_iff_iff]
 simp only [Bool.or_eq_true,decide_eq_true_eq]
 split<;>omega
theorem C4:gF Tryz.prog 43 5 (.int .u8 0) 1:=by
 obtain ⟨i,h1,h2,h3,h4⟩:=info_parts (P:=Tryz.prog) (e:=5) (z:=.int .u8 0) (size:=1) (bytes:=1) (by kernel_rfl)
 exact ⟨Tryz.underlying43,i,h1,h2,h3,h4,rfl⟩
theorem Kx:gF Tryz.prog 88 21 (.int .i32 0) 4:=by
 obtain ⟨i,h1,h2,h3,h4⟩:=info_parts (P:=Tryz.prog) (e:=21) (z:=.int .i32 0) (size:=1) (bytes:=4) (by kernel_rfl)
 exact ⟨Tryz.underlying88,i,h1,h2,h3,h4,rfl⟩
def L0(l:List UInt8):Value:=.string ⟨l.toArray⟩
def Lv(ls:List (List UInt8))(i:Nat):Value:=L0 (ls.getD i [])
def tj(w:World)(v:Value)(ls:List (List UInt8)):Prop:=je w v ls.length (Lv ls)
theorem tj.drew {w:World}{v:Value}{ls:List (List UInt8)}(h:tj w v ls)(k:Nat):tj (w.drewN k) v ls:=h
theorem tj.below {w w':World}{v:Value}{ls:List (List UInt8)}(h:tj w v ls)(hw:Below w.heap.size w w'):tj w' v ls:=je.below h hw
theorem dX {a b:Bool}(h:a=b):Ending.returned (.bool a)=.returned (.bool b):=by rw [h]
theorem JD {a b:Int}(h:a=b):Ending.returned (.int .i64 a)=.returned (.int .i64 b):=by rw [h]
set_option maxHeartbeats 1000000 in
theorem jg(c:Int)(w:World)(h0:0≤c)(h1:c≤255):
 Calls Tryz.prog 184 #[.int .u8 c] w fun e w'=>e=.returned (.int .i64 (cT c))∧w=w':=by
 have HX:Hid (cT c=if 48≤c∧c≤57 then c-48 else if 97≤c∧c≤102 then c-87 else if 65≤c∧c≤70 then c-55 else -1):=Lib.hid rfl
 by_cases a:48≤c<;>by_cases b:c≤57<;>by_cases d:97≤c<;>by_cases e:c≤102<;>by_cases f:65≤c<;>by_cases g:c≤70
 all_goals first
  |(exfalso;omega)
  |(go_enter Tryz.func184,Tryz.ntmps184
    go_wp2
    go_ret
    refine ⟨JD ?_,by trivial⟩
    rw [HX.out]
    (repeat' split)<;>first|rfl|omega)
theorem Ky {c c':Bool}(h3:c=c'):Ending.returned (.bool c)=.returned (.bool c'):=by rw [h3]
set_option maxHeartbeats 1000000 in
theorem zA(l:List UInt8)(w:World)(hm:l.length≤1000000):
 Calls Tryz.prog 158 #[.string ⟨l.toArray⟩,.string ⟨#[46]⟩] w fun e w'=>e=.returned (.bool (decide (0<l.length∧aD l (l.length-1)=46)))∧w=w':=by
 by_cases h0:l.length=0
 ·have HE:Hid (decide (0<l.length∧aD l (l.length-1)=46)=false):=Lib.hid (by rw [decide_eq_false_iff_not];omega)
  rw [HE.out]
  obtain rfl:l=[]:=List.eq_nil_of_length_eq_zero h0
  clear h0 hm
  go_enter Tryz.func158,Tryz.ntmps158
  go_wp2_with fail
  go_ret
  exact ⟨rfl,by trivial⟩
 ·obtain ⟨k,hk⟩:∃k,l.length=k+1:=⟨l.length-1,by omega⟩
  have hd:l.drop k=[l.getD k 0]:=by
   rw [List.drop_eq_getElem_cons (show k<l.length by omega),List.drop_eq_nil_of_le (by omega)]
   simp [List.getD,show k<l.length by omega]
  have e:aD l k=((l.getD k 0).toNat:Int):=rfl
  have HE:Hid (decide (0<l.length∧aD l (l.length-1)=46)=(l.drop k==[46])):=Lib.hid (by
   rw [hd,hk,show k+1-1=k from rfl,e]
   generalize l.getD k 0=b
   by_cases hb:b=46
   ·subst hb;simp
   ·have:(b.toNat:Int)≠46:=fun h=>hb (by apply UInt8.toNat_inj.1;show b.toNat=46;omega)
    simp [hb,this])
  have HL:=Lib.hid hk
  rw [HE.out]
  have c1:(1:Int)≤(l.length:Int):=by omega
  have c2:IntKind.i64.wrap ((l.length:Int)-1)=(k:Int):=by rw [IntWalk.i64_in _ (by omega)];omega
  have c3:(l.length:Int)-1=(k:Int):=by omega
  have c4:k≤l.length:=by omega
  clear hd e h0 hk HE
  go_enter Tryz.func158,Tryz.ntmps158
  go_wp2_with fail
  go_ret
  exact ⟨by first|rfl|(simp;done),by trivial⟩
set_option maxHeartbeats 1000000 in
theorem C5(l:List UInt8)(w:World)(hm:l.length≤1000000):
 Calls Tryz.prog 198 #[.string ⟨l.toArray⟩,.string ⟨#[46]⟩] w fun e w'=>e=.returned (.string ⟨(dB l).toArray⟩)∧w=w':=by
 have HS:=Lib.hid (zA l · hm)
 by_cases h:0<l.length∧aD l (l.length-1)=46
 ·have HE:Hid (dB l=l.take (l.length-1)):=Lib.hid (by unfold dB;rw [if_pos h])
  rw [HE.out]
  rw [decide_eq_true h]at HS
  obtain ⟨h1,-⟩:=h
  obtain ⟨k,hk⟩:∃k,l.length=k+1:=⟨l.length-1,by omega⟩
  have c2:IntKind.i64.wrap ((l.length:Int)-1)=(k:Int):=by rw [IntWalk.i64_in _ (by omega)];omega
  have c3:(l.length:Int)-1=(k:Int):=by omega
  have c4:k≤l.length:=by omega
  rw [show l.length-1=k by omega]
  clear HE hk
  go_enter Tryz.func198,Tryz.ntmps198
  go_wp2_with fail
  refine (HS.out _).mono ?_
  rintro e w' ⟨rfl,rfl⟩
  go_wp2_with fail
  go_ret
  exact ⟨by first|rfl|(simp;done),by trivial⟩
 ·have HE:Hid (dB l=l):=Lib.hid (by unfold dB;rw [if_neg h])
  rw [HE.out]
  rw [decide_eq_false h]at HS
  clear h
  go_enter Tryz.func198,Tryz.ntmps198
  go_wp2_with fail
  refine (HS.out _).mono ?_
  rintro e w' ⟨rfl,rfl⟩
  go_wp2_with fail
  go_ret
  exact ⟨rfl,by trivial⟩
theorem xd(l:List UInt8)(w:World)(hm:l.length≤1000000):
 Calls Tryz.prog 188 #[.string ⟨l.toArray⟩] w fun e w'=>e=.returned (.string ⟨(dB l).toArray⟩)∧w=w':=by
 have HS:=Lib.hid (C5 l · hm)
 have HT:Hid (∀w,Calls Tryz.prog 196 #[.string ⟨l.toArray⟩,.string ⟨#[46]⟩] w fun e w'=>e=.returned (.string ⟨(dB l).toArray⟩)∧w=w'):=Lib.hid (fun w=>by
  go_enter Tryz.func196,Tryz.ntmps196
  go_wp2_with fail
  refine (HS.out _).mono ?_
  rintro e w' ⟨rfl,rfl⟩
  go_wp2_with fail
  go_ret
  exact ⟨rfl,by trivial⟩)
 go_enter Tryz.func188,Tryz.ntmps188
 go_wp2_with fail
 refine (HT.out _).mono ?_
 rintro e w' ⟨rfl,rfl⟩
 go_wp2_with fail
 go_ret
 exact ⟨rfl,by trivial⟩
set_option maxHeartbeats 1000000 in
theorem oG(l:List UInt8)(w:World)(hm:l.length≤1000000):
 Calls Tryz.prog 189 #[.string ⟨l.toArray⟩] w fun e w'=>e=.returned (.tuple #[.string ⟨(jd l).toArray⟩,.bool (iI l)])∧w=w':=by
 have b0:=dE l 0
 have b1:=dF l 0
 have b2:=dE l 1
 have b3:=dF l 1
 by_cases h1:2≤l.length
 ·have c1:(2:Int)≤(l.length:Int):=by omega
  have c2:0<l.length:=by omega
  have c3:1<l.length:=by omega
  by_cases h2:aD l 0=48
  ·have e2:(aD l 0==48)=true:=by rw [beq_iff_eq];exact h2
   by_cases h3:aD l 1=120
   ·have HP:Hid (iI l=true):=Lib.hid (by unfold iI;exact decide_eq_true ⟨h1,h2,.inl h3⟩)
    have HR:Hid (jd l=l.drop 2):=Lib.hid (by unfold jd;rw [if_pos HP.out])
    have e3:(aD l 1==120)=true:=by rw [beq_iff_eq];exact h3
    rw [HP.out,HR.out]
    clear h2 h3
    go_enter Tryz.func189,Tryz.ntmps189
    go_wp2_with fail
    go_ret2
    exact ⟨by first|rfl|(simp;done),by trivial⟩
   ·have e3:(aD l 1==120)=false:=by rw [beq_eq_false_iff_ne];exact h3
    by_cases h4:aD l 1=88
    ·have HP:Hid (iI l=true):=Lib.hid (by unfold iI;exact decide_eq_true ⟨h1,h2,.inr h4⟩)
     have HR:Hid (jd l=l.drop 2):=Lib.hid (by unfold jd;rw [if_pos HP.out])
     have e4:(aD l 1==88)=true:=by rw [beq_iff_eq];exact h4
     rw [HP.out,HR.out]
     clear h2 h3 h4
     go_enter Tryz.func189,Tryz.ntmps189
     go_wp2_with fail
     go_ret2
     exact ⟨by first|rfl|(simp;done),by trivial⟩
    ·have HP:Hid (iI l=false):=Lib.hid (by unfold iI;rw [decide_eq_false_iff_not];omega)
     have HR:Hid (jd l=[]):=Lib.hid (by unfold jd;rw [if_neg (by rw [HP.out];simp)])
     have e4:(aD l 1==88)=false:=by rw [beq_eq_false_iff_ne];exact h4
     rw [HP.out,HR.out]
     clear h2 h3 h4
     go_enter Tryz.func189,Tryz.ntmps189
     go_wp2_with fail
     go_ret2
     exact ⟨by first|rfl|(simp;done),by trivial⟩
  ·have e2:(aD l 0==48)=false:=by rw [beq_eq_false_iff_ne];exact h2
   have HP:Hid (iI l=false):=Lib.hid (by unfold iI;rw [decide_eq_false_iff_not];omega)
   have HR:Hid (jd l=[]):=Lib.hid (by unfold jd;rw [if_neg (by rw [HP.out];simp)])
   rw [HP.out,HR.out]
   clear h2
   go_enter Tryz.func189,Tryz.ntmps189
   go_wp2_with fail
   go_ret2
   exact ⟨by first|rfl|(simp;done),by trivial⟩
 ·have HP:Hid (iI l=false):=Lib.hid (by unfold iI;rw [decide_eq_false_iff_not];omega)
  have HR:Hid (jd l=[]):=Lib.hid (by unfold jd;rw [if_neg (by rw [HP.out];simp)])
  rw [HP.out,HR.out]
  have c1:¬(2:Int)≤(l.length:Int):=by omega
  go_enter Tryz.func189,Tryz.ntmps189
  go_wp2_with fail
  go_ret2
  exact ⟨by first|rfl|(simp;done),by trivial⟩
set_option maxHeartbeats 1000000 in
theorem iK(l:List UInt8)(n:Int)(w:World)(hm:l.length≤1000000)(hn:0≤n)(hn2:n≤100):
 Calls Tryz.prog 190 #[.string ⟨l.toArray⟩,.int .i64 n] w fun e w'=>e=.returned (.bool (dH n l))∧w=w':=by
 have HS:=Lib.hid (zr n l)
 go_enter Tryz.func190,Tryz.ntmps190
 go_wp2_with fail
 go_loopw [5,6,9] (fun t5 t6 ti wr=>∃i:Nat,i≤l.length∧ti=.int .i64 i∧Hid (dH n l=dH n (l.drop i))∧wr=w) (fun _ _ ti _=>l.length-(intOf ti).toNat)
 case atStart=>exact ⟨0,by omega,rfl,Lib.hid rfl,rfl⟩
 case round=>
  obtain ⟨i,hi,rfl,HI,rfl⟩:=hrel
  by_cases hlt:i<l.length
  ·have hltI:(i:Int)<(l.length:Int):=by omega
   have b0:=dE l i
   have b1:=dF l i
   obtain ⟨x0,x1⟩:=pz (aD l i)
   have HX:=Lib.hid (jg (aD l i) · b0 b1)
   have HT:=Lib.hid (HS.out i hlt)
   obtain ⟨x,hx⟩:∃x,cT (aD l i)=x:=⟨_,rfl⟩
   rw [hx]at x0 x1 HX HT
   clear hx
   by_cases h1:x<0
   ·have H1:Hid (dH n l=false):=Lib.hid (by rw [HI.out,HT.out,decide_eq_false (by omega)];rfl)
    go_wp2_with fail
    refine (HX.out _).mono ?_
    rintro e w' ⟨rfl,rfl⟩
    go_wp2_with fail
    go_ret
    exact ⟨Ky H1.out.symm,by trivial⟩
   ·by_cases h2:n≤x
    ·have H1:Hid (dH n l=false):=Lib.hid (by rw [HI.out,HT.out,decide_eq_false (by omega)];rfl)
     go_wp2_with fail
     refine (HX.out _).mono ?_
     rintro e w' ⟨rfl,rfl⟩
     go_wp2_with fail
     go_ret
     exact ⟨Ky H1.out.symm,by trivial⟩
    ·have H1:Hid (dH n l=dH n (l.drop (i+1))):=Lib.hid (by rw [HI.out,HT.out,decide_eq_true (by omega)];rfl)
     go_wp2_with fail
     refine (HX.out _).mono ?_
     rintro e w' ⟨rfl,rfl⟩
     go_wp2_with fail
     exact ⟨⟨i+1,by omega,by go_num,H1,by trivial⟩,by simp [intOf];omega⟩
  ·obtain rfl:i=l.length:=by omega
   have H1:Hid (dH n l=true):=Lib.hid (by rw [HI.out,List.drop_length];rfl)
   go_wp2_with fail
   go_ret
   exact ⟨Ky H1.out.symm,by trivial⟩
section
def gM(w:World)(g:Nat)(t:TypeId)(cs:List Value):Prop:=w.heap[g]?=some (.cells cs.toArray t (0,0))
section
variable {w w':World} {g:Nat} {t:TypeId} {cs:List Value}
theorem gM.lt(h:gM w g t cs):g<w.heap.size:=(Array.getElem?_eq_some_iff.1 h).1
theorem gM.cell(h:gM w g t cs)(i:Nat):w.cell? ⟨g,i,none⟩=cs[i]?:=by
 rw [cell_of_row w g i cs.toArray t (0,0) h];simp
theorem gM.drew(h:gM w g t cs)(n:Nat):gM (w.drewN n) g t cs:=h
theorem gM.grown {row:Option Nat}(h:gM w g t cs)(hg:w.grownBy w' row)(hr:row≠some g):gM w' g t cs:=by
 unfold gM;rw [hg.block g h.lt (fun e=>hr e.symm)];exact h
theorem gM.below {B:Nat}(h:gM w g t cs)(hb:Below B w w')(hB:g<B):gM w' g t cs:=by
 unfold gM;rw [hb.block g hB];exact h
theorem gM.new(w:World)(t:TypeId)(cs:List Value):gM (w.alloc (.cells cs.toArray t)) w.heap.size t cs:=heap_alloc_new w _
theorem gM.alloc(h:gM w g t cs)(o:Obj):gM (w.alloc o) g t cs:=h.grown (World.grownBy_alloc w o none) (by simp)
theorem gM.set(h:gM w g t cs)(i:Nat)(hi:i<cs.length)(v:Value):gM (w.setCell ⟨g,i,none⟩ v) g t (cs.set i v):=by
 have h2:w.heap[g]?=some (.cells cs.toArray t (0,0)):=h
 unfold gM
 rw [heap_setCell_same w g i cs.toArray t v h2]
 simp
end
end
section
theorem gw(w:World)(o:Obj):(w.alloc o).heap.size=w.heap.size+1:=Array.size_push ..
theorem lk {w:World}{g g':Nat}{t:TypeId}{cs:List Value}(h:gM w g t cs)(cs':Array Value)(hne:g≠g'):gM (w.setRow g' cs') g t cs:=by
 unfold gM World.setRow at *
 rw [Array.getElem?_modify,if_neg (fun e=>hne e.symm)];exact h
theorem eD {w:World}{g:Nat}{t:TypeId}{cs:List Value}(h:gM w g t cs)(cs':List Value):gM (w.setRow g cs'.toArray) g t cs':=by
 unfold gM World.setRow at *
 rw [Array.getElem?_modify,if_pos rfl,h];rfl
theorem gn {w w':World}{B g:Nat}(h:Below B w w')(cs:Array Value)(hg:B≤g):Below B w (w'.setRow g cs):=by
 refine ⟨h.os,h.tape,h.output,?_,?_⟩
 ·have:=h.size
  show _ ≤(w'.heap.modify g _).size
  simpa using this
 ·intro k hk
  show(w'.heap.modify g _)[k]?=_
  rw [Array.getElem?_modify,if_neg (by omega)]
  exact h.block k hk
section
variable {P:Program} {ops:Array Oper} {rest:List Oper} {o:Oper} {a:Act} {Q:Exit→Act→World→Prop}
theorem jR {w:World}(hw:Region.wanted o (yielded ops a.tmps)=true)(t:TypeId)(x:Operand)(hop:o.op=.load t x)(g:Nat)(cs:List Value)(hx:a.eval x=.pointer (some ⟨g,0,none⟩))
 (n:Nat)(e:TypeId)(hu:P.underlying t=some (.array n e))(hi:(P.info? t).map (·.size)=some cs.length)(hb:gM w g t cs)
 (h:wpList P ops Q rest (a.put o.dst (.agg cs.toArray)) w):wpList P ops Q (o::rest) a w:=by
 refine eI hw fun K hK=>?_
 have hrun:=run_loadVar_row (P:=P) w g t t cs.toArray (0,0) _ hb hu rfl (by simpa using hi)
 unfold Oper.wp
 simp [execOp,hop,hx,Instr.loadAt,Instr.sureAddr,hrun,Result.andThen]
 exact hK _ _ h
theorem jv {w:World}(hw:Region.wanted o (yielded ops a.tmps)=true)(t:TypeId)(x y:Operand)(hop:o.op=.store t x y)(hd:o.dst=none)(g:Nat)(cs cs':List Value)(hx:a.eval x=.pointer (some ⟨g,0,none⟩))
 (hy:a.eval y=.agg cs'.toArray)(hi:(P.info? t).map (·.size)=some cs'.length)(hb:gM w g t cs)(ho:cs.length=cs'.length)(h1:∀v∈cs',v.oneCell'=true)
 (h:wpList P ops Q rest a (w.setRow g cs'.toArray)):wpList P ops Q (o::rest) a w:=by
 refine eI hw fun K hK=>?_
 have hrun:=run_storeVar_row (P:=P) w g t t cs.toArray cs'.toArray hb (by simpa using hi) (by simpa using ho) (by simpa using h1)
 unfold Oper.wp
 simp [execOp,hop,hx,hy,Instr.storeAt,Instr.sureAddr,hrun,Result.andThen]
 exact hK _ _ (by rw [hd];exact h)
end
end
set_option maxHeartbeats 1000000 in
theorem tm(v:Value)(l:List UInt8)(w:World)(hv:oF w v l)(hm:l.length≤1000000):
 Calls Tryz.prog 60 #[v] w fun e w'=>e=.returned (.bool (di l))∧∃n,w'=w.drewN n:=by
 obtain ⟨a,cap,rfl,hc1,hc2,-,hs⟩:=hv
 unfold maxLen at hc2
 by_cases hn:l.length=0
 ·have hN:=lf hn
  rw [hN,hn]
  clear hs hN
  go_enter Tryz.func60,Tryz.ntmps60
  go_wp2
  go_loopw [3] (fun ti wr=>ti=.int .i64 0∧wr=w) (fun _ _=>0)
  case atStart=>exact ⟨rfl,rfl⟩
  case round=>
   obtain ⟨rfl,rfl⟩:=hrel
   go_wp2
   go_ret
   exact ⟨rfl,0,rfl⟩
 obtain ⟨b,off,rfl,hc⟩:=hs (by omega)
 have HC:=Lib.hid hc
 clear hs hc
 go_enter Tryz.func60,Tryz.ntmps60
 go_wp2
 go_loopw [3] (fun ti wr=>∃k:Nat,k≤l.length∧ti=.int .i64 k∧(∃n,wr=w.drewN n)∧Hid (di l=di (l.drop k))) (fun ti _=>l.length-(intOf ti).toNat)
 case atStart=>exact ⟨0,by omega,rfl,⟨0,rfl⟩,Lib.hid (by simp)⟩
 case round=>
  obtain ⟨k,hk,rfl,⟨n,rfl⟩,HR⟩:=hrel
  by_cases hlt:k<l.length
  ·have hkc:¬k=cap:=by omega
   have hkc':k<cap:=by omega
   have HI:Hid (oF w (.slice (some ⟨b,off+k,none⟩) (l.length-k) (cap-k)) (l.drop k)):=Lib.hid (oF.Ft HC.out k hlt hc1 (by unfold maxLen;omega))
   have hnn:=eY (l.drop k) (by simp;omega)
   have HV:=Lib.hid (gT (l:=l.drop k) (by simp;omega))
   simp only [List.length_drop]at hnn
   obtain ⟨hn1,hn2,-⟩:=hnn
   go_wp2_with fail
   refine (xb _ (l.drop k) _ (je.drew HI.out) (by simp;omega)).mono ?_
   rintro e w' ⟨rfl,n2,rfl⟩
   rw [List.drop_drop]at HV
   generalize bb (l.drop k)=t at *
   obtain ⟨r,nn,ok⟩:=t
   cases ok
   ·go_wp2
    go_ret
    exact ⟨by rw [HR.out,HV.out];rfl,_,rfl⟩
   ·go_wp2
    go_roundw
    case rel=>exact ⟨k+nn,by omega,by go_num,⟨_,rfl⟩,Lib.hid (by rw [HR.out,HV.out];simp)⟩
    case measure=>simp [intOf];omega
  ·obtain rfl:k=l.length:=by omega
   go_wp2
   go_ret
   exact ⟨by rw [HR.out,lf (l:=l.drop l.length) (by simp)];rfl,_,rfl⟩
set_option maxHeartbeats 1000000 in
theorem zB(v:Value)(l:List UInt8)(w:World)(hv:oF w v l)(hm:l.length≤1000000):
 Calls Tryz.prog 62 #[v] w fun e w'=>∃v',e=.returned v'∧Own w' w.heap.size 21 v' ((dy l).map (Value.int .i32))∧Below w.heap.size w w':=by
 obtain ⟨a,cap,rfl,hc1,hc2,-,hs⟩:=hv
 unfold maxLen at hc2
 by_cases hn:l.length=0
 ·have hN:=eZ hn
  rw [hN,hn]
  clear hs hN
  go_enter Tryz.func62,Tryz.ntmps62
  go_wp2_with (at_make;refine gm _ rfl _ _ 88 rfl w.heap.size 21 (.int .i32 0) 4 Kx _ _ _ 0 rfl rfl rfl (by omega) (by omega) (Nat.le_refl _) ?_)
  intro w0 hown0 hg0
  go_wp2
  go_loopw [3,4] (fun tv ti wr=>tv=.slice (some ⟨w.heap.size,0,none⟩) 0 0∧ti=.int .i64 0∧wr=w0) (fun _ _ _=>0)
  case atStart=>exact ⟨rfl,rfl,rfl⟩
  case round=>
   obtain ⟨rfl,rfl,rfl⟩:=hrel
   go_wp2
   go_ret
   exact ⟨_,rfl,by simpa using hown0,(Below.refl _ _).grown hg0 (Nat.le_refl _) (fun k h=>by cases h)⟩
 obtain ⟨b,off,rfl,hc⟩:=hs (by omega)
 have HC:=Lib.hid hc
 have hbw:=hc.lt (by omega)
 clear hs hc
 go_enter Tryz.func62,Tryz.ntmps62
 go_wp2_with (at_make;refine gm _ rfl _ _ 88 rfl w.heap.size 21 (.int .i32 0) 4 Kx _ _ _ l.length rfl rfl rfl (by omega) (by omega) (Nat.le_refl _) ?_)
 intro w0 hown0 hg0
 go_wp2
 go_loopw [3,4] (fun tv ti wr=>∃(k:Nat) (ds:List Int),k≤l.length∧ti=.int .i64 k∧Own wr w.heap.size 21 tv (ds.map (Value.int .i32))∧ds.length≤k∧Below w.heap.size w wr∧Hid (dy l=ds++dy (l.drop k))) (fun _ ti _=>l.length-(intOf ti).toNat)
 case atStart=>exact ⟨0,[],by omega,rfl,by simpa using hown0,by simp,(Below.refl _ _).grown hg0 (Nat.le_refl _) (fun k h=>by cases h),Lib.hid (by simp)⟩
 case round=>
  obtain ⟨k,ds,hk,rfl,hown,hdk,hbel,HR⟩:=hrel
  by_cases hlt:k<l.length
  ·have hkc:¬k=cap:=by omega
   have hkc':k<cap:=by omega
   have HI:Hid (oF wr (.slice (some ⟨b,off+k,none⟩) (l.length-k) (cap-k)) (l.drop k)):=Lib.hid (oF.Ft (HC.out.below hbel hbw) k hlt hc1 (by unfold maxLen;omega))
   have hnn:=eY (l.drop k) (by simp;omega)
   have HV:=Lib.hid (dW (l:=l.drop k) (by simp;omega))
   have hsz:=hbel.size
   simp only [List.length_drop]at hnn
   obtain ⟨hn1,hn2,-⟩:=hnn
   have HB:=Lib.hid hbel
   clear hbel
   go_wp2_with fail
   refine (xb _ (l.drop k) _ HI.out (by simp;omega)).mono ?_
   rintro e w' ⟨rfl,n2,rfl⟩
   rw [List.drop_drop]at HV
   generalize bb (l.drop k)=t at *
   obtain ⟨r,nn,ok⟩:=t
   go_wp2_with (at_builtin;refine dv _ rfl _ _ 88 rfl w.heap.size 21 (.int .i32 0) 4 Kx _ _ rfl (hown.drew n2) #[.int .i32 r] 1 1 rfl rfl ?c1 ?c2 ?c3 ?c4 ?_)
   case c1=>rfl
   case c2=>simp;omega
   case c3=>simp;omega
   case c4=>simpa using hsz
   intro v' w2 hown2 hgr
   have hb2:Below w.heap.size w w2:=(fQ HB.out n2).grown hgr (by simpa using hsz) (fun k hk=>(hown.row k hk).1)
   go_wp2
   go_roundw
   case rel=>exact ⟨k+nn,ds++[r],by omega,by go_num,by simpa using hown2,by simp;omega,hb2,Lib.hid (by rw [HR.out,HV.out];simp)⟩
   case measure=>simp [intOf];omega
  ·obtain rfl:k=l.length:=by omega
   go_wp2
   go_ret
   refine ⟨_,rfl,?_,hbel⟩
   rw [HR.out,eZ (l:=l.drop l.length) (by simp)]
   simpa using hown
def K6(r s:Int):Int:=if s=0 then r else if s=6 then r/64 else r/4096
set_option maxHeartbeats 1000000 in
theorem mj(r s:Int)(w:World)(h0:0≤r)(h1:r≤1114111)(hs:s=0∨s=6∨s=12):
 Calls Tryz.prog 144 #[.int .i32 r,.int .i64 s] w fun e w'=>e=.returned (.int .u8 (128+K6 r s %64))∧w=w':=by
 rcases hs with rfl|rfl|rfl
 all_goals
  go_enter Tryz.func144,Tryz.ntmps144
  go_wp2
  go_ret
  refine ⟨?_,by trivial⟩
  simp [K6]
  try omega
theorem pD {w':World}{B:Nat}{e:TypeId}{v:Value}{xs:List Value}{r:Int}{cs:List Value}(hown:Own w' B e v (xs++cs))(h:(encR r).map fb=cs):Own w' B e v (xs++(encR r).map fb):=by rw [h];exact hown
set_option maxHeartbeats 1000000 in
theorem eE(vb:Value)(xs:List Value)(B:Nat)(r:Int)(w:World)(h0:0≤r)(h1:r≤1114111)(hown:Own w B 5 vb xs)(hB:B≤w.heap.size)(hx:xs.length≤100000000):
 Calls Tryz.prog 101 #[vb,.int .i32 r] w fun e w'=>∃v',e=.returned v'∧Own w' B 5 v' (xs++(encR r).map fb)∧w.grownBy w' vb.ownBlock:=by
 by_cases h2:r<128
 ·have he:(encR r).map fb=[.int .u8 r]:=by unfold encR;rw [if_pos h2];simp [ia h0 (show r≤255 by omega)]
  have HE:=Lib.hid he
  clear he
  go_enter Tryz.func101,Tryz.ntmps101
  go_wp2_with (first|(go_at_call 144;refine (mj _ _ _ (by omega) (by omega) (by omega)).mono ?_;rintro e w' ⟨rfl,rfl⟩)|(at_builtin;refine dv _ rfl _ _ 43 rfl B 5 (.int .u8 0) 1 C4 _ _ rfl hown _ 1 1 rfl rfl ?c1 (by omega) (by omega) hB ?_))
  case c1=>simp [Value.oneCell']
  intro v' w' hown' hgr
  go_wp2
  go_ret
  exact ⟨_,rfl,pD hown' (by rw [HE.out];try simp [K6]),hgr⟩
 by_cases h3:r<2048
 ·have he:(encR r).map fb=[.int .u8 (192+r/64),.int .u8 (128+r %64)]:=by unfold encR;rw [if_neg h2,if_pos h3];simp [ia (show 0≤192+r/64 by omega) (by omega),ia (show 0≤128+r %64 by omega) (by omega)]
  have HE:=Lib.hid he
  clear he
  go_enter Tryz.func101,Tryz.ntmps101
  go_wp2_with (first|(go_at_call 144;refine (mj _ _ _ (by omega) (by omega) (by omega)).mono ?_;rintro e w' ⟨rfl,rfl⟩)|(at_builtin;refine dv _ rfl _ _ 43 rfl B 5 (.int .u8 0) 1 C4 _ _ rfl hown _ 2 2 rfl rfl ?c1 (by omega) (by omega) hB ?_))
  case c1=>simp [Value.oneCell']
  intro v' w' hown' hgr
  go_wp2
  go_ret
  exact ⟨_,rfl,pD hown' (by rw [HE.out];try simp [K6]),hgr⟩
 by_cases h4:r<65536
 ·have he:(encR r).map fb=[.int .u8 (224+r/4096),.int .u8 (128+r/64 %64),.int .u8 (128+r %64)]:=by
   unfold encR;rw [if_neg h2,if_neg h3,if_pos h4];simp [ia (show 0≤224+r/4096 by omega) (by omega),ia (show 0≤128+r/64 %64 by omega) (by omega),ia (show 0≤128+r %64 by omega) (by omega)]
  have HE:=Lib.hid he
  clear he
  go_enter Tryz.func101,Tryz.ntmps101
  go_wp2_with (first|(go_at_call 144;refine (mj _ _ _ (by omega) (by omega) (by omega)).mono ?_;rintro e w' ⟨rfl,rfl⟩)|(at_builtin;refine dv _ rfl _ _ 43 rfl B 5 (.int .u8 0) 1 C4 _ _ rfl hown _ 3 3 rfl rfl ?c1 (by omega) (by omega) hB ?_))
  case c1=>simp [Value.oneCell']
  intro v' w' hown' hgr
  go_wp2
  go_ret
  exact ⟨_,rfl,pD hown' (by rw [HE.out];try simp [K6]),hgr⟩
 ·have he:(encR r).map fb=[.int .u8 (240+r/262144),.int .u8 (128+r/4096 %64),.int .u8 (128+r/64 %64),.int .u8 (128+r %64)]:=by
   unfold encR;rw [if_neg h2,if_neg h3,if_neg h4];simp [ia (show 0≤240+r/262144 by omega) (by omega),ia (show 0≤128+r/4096 %64 by omega) (by omega),ia (show 0≤128+r/64 %64 by omega) (by omega),ia (show 0≤128+r %64 by omega) (by omega)]
  have HE:=Lib.hid he
  clear he
  go_enter Tryz.func101,Tryz.ntmps101
  go_wp2_with (first|(go_at_call 144;refine (mj _ _ _ (by omega) (by omega) (by omega)).mono ?_;rintro e w' ⟨rfl,rfl⟩)|(at_builtin;refine dv _ rfl _ _ 43 rfl B 5 (.int .u8 0) 1 C4 _ _ rfl hown _ 4 4 rfl rfl ?c1 (by omega) (by omega) hB ?_))
  case c1=>simp [Value.oneCell']
  intro v' w' hown' hgr
  go_wp2
  go_ret
  exact ⟨_,rfl,pD hown' (by rw [HE.out];try simp [K6]),hgr⟩
set_option maxHeartbeats 1000000 in
theorem zC(v:Value)(l:List Int)(w:World)(hv:xa w v l)(hm:l.length≤1000000)(hr:∀i,i<l.length→-2147483648≤l.getD i 0∧l.getD i 0≤2147483647):
 Calls Tryz.prog 61 #[v] w fun e w'=>∃v',e=.returned v'∧Own w' w.heap.size 5 v' ((fP l).map fb)∧Below w.heap.size w w':=by
 obtain ⟨a,cap,rfl,hc1,hc2,-,hs⟩:=hv
 unfold maxLen at hc2
 have HC:Hid (0<l.length→∃b off,a=some ⟨b,off,none⟩∧Cells w b off l.length (w9 l)):=Lib.hid hs
 have HRG:=Lib.hid hr
 clear hs hr
 go_enter Tryz.func61,Tryz.ntmps61
 go_wp2_with (at_make;refine gm _ rfl _ _ 43 rfl w.heap.size 5 (.int .u8 0) 1 C4 _ _ _ l.length rfl rfl rfl (by omega) (by omega) (Nat.le_refl _) ?_)
 intro w0 hown0 hg0
 go_wp2
 go_loopw [3,11] (fun tv ti wr=>∃(k:Nat),k≤l.length∧ti=.int .i64 k∧Own wr w.heap.size 5 tv ((fP (l.take k)).map fb)∧Below w.heap.size w wr) (fun _ ti _=>l.length-(intOf ti).toNat)
 case atStart=>exact ⟨0,by omega,rfl,by simpa [fP]using hown0,(Below.refl _ _).grown hg0 (Nat.le_refl _) (fun k h=>by cases h)⟩
 case round=>
  obtain ⟨k,hk,rfl,hown,hbel⟩:=hrel
  by_cases hlt:k<l.length
  ·obtain ⟨b,off,rfl,hc⟩:=HC.out (by omega)
   have hcell:wr.cell? ⟨b,off+k,none⟩=some (.int .i32 (l.getD k 0)):=(hc.below hbel (hc.lt (by omega))).at k hlt
   have ht:=Lib.hid (CU l k hlt)
   have hf:=HY (l.getD k 0)
   have hln:=(mc (l.take k)).2
   obtain ⟨hr1,hr2⟩:=HRG.out k hlt
   simp only [List.length_take]at hln
   have HFX:Hid (hZ (l.getD k 0)=if l.getD k 0<0∨1114111<l.getD k 0∨(55296≤l.getD k 0∧l.getD k 0≤57343)then 65533 else l.getD k 0):=Lib.hid rfl
   clear hc HC HRG
   have hsz:=hbel.size
   generalize hZ (l.getD k 0)=R at *
   generalize l.getD k 0=r at *
   by_cases c1:r<0
   ·have hRr:R=65533:=by have:=HFX.out;rw [this,if_pos (by omega)]
    subst hRr
    go_wp2_with fail
    refine (eE _ _ w.heap.size _ _ (by omega) (by omega) hown (by simpa using hsz) (by simp;omega)).mono ?_
    rintro e w2 ⟨v',rfl,hown2,hgr⟩
    have hb2:Below w.heap.size w w2:=hbel.grown hgr hsz (fun k hk=>(hown.row k hk).1)
    go_wp2
    go_roundw
    case rel=>exact ⟨k+1,by omega,by go_num,by rw [ht.out];simpa using hown2,hb2⟩
    case measure=>simp [intOf];omega
   by_cases c2:1114111<r
   ·have hRr:R=65533:=by have:=HFX.out;rw [this,if_pos (by omega)]
    subst hRr
    go_wp2_with fail
    refine (eE _ _ w.heap.size _ _ (by omega) (by omega) hown (by simpa using hsz) (by simp;omega)).mono ?_
    rintro e w2 ⟨v',rfl,hown2,hgr⟩
    have hb2:Below w.heap.size w w2:=hbel.grown hgr hsz (fun k hk=>(hown.row k hk).1)
    go_wp2
    go_roundw
    case rel=>exact ⟨k+1,by omega,by go_num,by rw [ht.out];simpa using hown2,hb2⟩
    case measure=>simp [intOf];omega
   by_cases c3:r/2048=27
   ·have hRr:R=65533:=by have:=HFX.out;rw [this,if_pos (by omega)]
    subst hRr
    go_wp2_with fail
    refine (eE _ _ w.heap.size _ _ (by omega) (by omega) hown (by simpa using hsz) (by simp;omega)).mono ?_
    rintro e w2 ⟨v',rfl,hown2,hgr⟩
    have hb2:Below w.heap.size w w2:=hbel.grown hgr hsz (fun k hk=>(hown.row k hk).1)
    go_wp2
    go_roundw
    case rel=>exact ⟨k+1,by omega,by go_num,by rw [ht.out];simpa using hown2,hb2⟩
    case measure=>simp [intOf];omega
   ·have hRr:R=r:=by have:=HFX.out;rw [this,if_neg (by omega)]
    subst hRr
    go_wp2_with fail
    refine (eE _ _ w.heap.size _ _ (by omega) (by omega) hown (by simpa using hsz) (by simp;omega)).mono ?_
    rintro e w2 ⟨v',rfl,hown2,hgr⟩
    have hb2:Below w.heap.size w w2:=hbel.grown hgr hsz (fun k hk=>(hown.row k hk).1)
    go_wp2
    go_roundw
    case rel=>exact ⟨k+1,by omega,by go_num,by rw [ht.out];simpa using hown2,hb2⟩
    case measure=>simp [intOf];omega
  ·obtain rfl:k=l.length:=by omega
   go_wp2
   go_ret
   refine ⟨_,rfl,?_,hbel⟩
   simpa using hown
def nE(l:List UInt8):Nat:=
 if 1≤l.length∧aD l 0=46 then 1
 else if 3≤l.length∧aD l 0=37∧aD l 1=50∧(aD l 2=101∨aD l 2=69)then 3 else 0
def ml(l:List UInt8):Bool:=decide (0<l.length∧nE l=l.length)
def mm(l:List UInt8):Bool:=decide (0<nE l)&&ml (l.drop (nE l))
def bS(l:List UInt8):Bool:=decide (l.length=2)&&C3 (aD l 0)&&(decide (aD l 1=58)||decide (aD l 1=124))
def nG(l:List UInt8):Bool:=bS l&&decide (aD l 1=58)
def Im(c:Int):Bool:=decide (c=47∨c=92∨c=63∨c=35)
def bC(l:List UInt8):Bool:=decide (2≤l.length)&&bS (l.take 2)&&(decide (l.length=2)||Im (aD l 2))
theorem Io(l:List UInt8):nE l≤l.length∧nE l≤3:=by unfold nE;(repeat' split)<;>omega
theorem Lw(l:List UInt8)(h:2≤l.length):(l.take 2=[37,50])=(aD l 0=37∧aD l 1=50):=by
 match l,h with
 |a::b::t,_=>
  have e0:aD (a::b::t) 0=(a.toNat:Int):=rfl
  have e1:aD (a::b::t) 1=(b.toNat:Int):=rfl
  rw [e0,e1]
  simp only [List.take_succ_cons,List.take_zero,List.cons.injEq,and_true]
  apply propext
  constructor
  ·rintro ⟨rfl,rfl⟩;exact ⟨rfl,rfl⟩
  ·intro ⟨h1,h2⟩
   exact ⟨UInt8.toNat_inj.1 (by show a.toNat=37;omega),UInt8.toNat_inj.1 (by show b.toNat=50;omega)⟩
set_option maxHeartbeats 1000000 in
theorem jh(c:Int)(w:World)(h0:0≤c)(h1:c≤255):
 Calls Tryz.prog 153 #[.int .u8 c] w fun e w'=>e=.returned (.bool (C3 c))∧w=w':=by
 have HL:=Lib.hid (Il c h0 h1)
 have hq:=tg c h0 h1
 have hb:=Ik c h0 h1
 generalize rY c=q at *
 go_enter Tryz.func153,Tryz.ntmps153
 go_wp2
 all_goals
  go_ret
  refine ⟨dX ?_,by trivial⟩
  rw [HL.out]
  symm
  first|(rw [decide_eq_false_iff_not];omega)|(rw [decide_eq_decide];omega)|(simp;omega)
set_option maxHeartbeats 1000000 in
theorem eA(l:List UInt8)(w:World)(hm:l.length≤1000000):
 Calls Tryz.prog 177 #[.string ⟨l.toArray⟩] w fun e w'=>e=.returned (.int .i64 (nE l))∧w=w':=by
 have b0:=dE l 0
 have b0':=dF l 0
 have b1:=dE l 2
 have b1':=dF l 2
 have ho:=tg (aD l 2) b1 b1'
 go_enter Tryz.func177,Tryz.ntmps177
 go_wp2
 all_goals
  go_ret
  refine ⟨JD ?_,by trivial⟩
  clear ho
  try simp only [beq_iff_eq,beq_eq_false_iff_ne]at *
  by_cases h2:2≤l.length
  ·try simp only [Lw l h2]at *
   unfold nE
   try unfold rY at *
   (repeat' split)<;>first|rfl|omega|(split at *<;>omega)
  ·unfold nE
   (repeat' split)<;>first|rfl|omega
set_option maxHeartbeats 1000000 in
theorem Bu(l:List UInt8)(w:World)(hm:l.length≤1000000):
 Calls Tryz.prog 164 #[.string ⟨l.toArray⟩] w fun e w'=>e=.returned (.bool (ml l))∧w=w':=by
 obtain ⟨n,hn⟩:∃n,nE l=n:=⟨_,rfl⟩
 have HN:=Lib.hid hn
 cases l with
 |nil=>
  have E0:=Lib.hid (show ml []=false from rfl)
  clear hn HN
  go_enter Tryz.func164,Tryz.ntmps164
  go_wp2_with (go_at_call 177;refine (eA [] _ (by decide)).mono ?_;rintro e w' ⟨rfl,rfl⟩)
  all_goals (go_ret;exact ⟨dX E0.out.symm,by trivial⟩)
 |cons b t=>
  have hp:(0:Int)<((b::t).length:Int):=by simp
  have hie:(b::t).isEmpty=false:=rfl
  have hpn:0<(b::t).length:=by simp
  generalize b::t=l at *
  by_cases h:n=l.length
  ·have h1:((n:Int)==(l.length:Int))=true:=by rw [beq_iff_eq];omega
   have HF:Hid (ml l=true):=Lib.hid (by unfold ml;rw [hn];exact decide_eq_true ⟨hpn,h⟩)
   clear h hn
   go_enter Tryz.func164,Tryz.ntmps164
   go_wp2_with (go_at_call 177;refine (eA l _ hm).mono ?_;rintro e w' ⟨rfl,rfl⟩;rw [HN.out])
   all_goals (go_ret;exact ⟨dX HF.out.symm,by trivial⟩)
  ·have h1:((n:Int)==(l.length:Int))=false:=by rw [beq_eq_false_iff_ne];omega
   have HF:Hid (ml l=false):=Lib.hid (by unfold ml;rw [hn];exact decide_eq_false (fun k=>h k.2))
   clear h hn
   go_enter Tryz.func164,Tryz.ntmps164
   go_wp2_with (go_at_call 177;refine (eA l _ hm).mono ?_;rintro e w' ⟨rfl,rfl⟩;rw [HN.out])
   all_goals (go_ret;exact ⟨dX HF.out.symm,by trivial⟩)
set_option maxHeartbeats 1000000 in
theorem Fv(l:List UInt8)(w:World)(hm:l.length≤1000000):
 Calls Tryz.prog 163 #[.string ⟨l.toArray⟩] w fun e w'=>e=.returned (.bool (mm l))∧w=w':=by
 have hd:=Io l
 have HB:Hid (mm l=(decide (0<nE l)&&ml (l.drop (nE l)))):=Lib.hid rfl
 obtain ⟨n,hn⟩:∃n,nE l=n:=⟨_,rfl⟩
 have HN:=Lib.hid hn
 rw [hn]at HB hd
 clear hn
 obtain ⟨hd1,hd2⟩:=hd
 by_cases h:0<n
 ·have h1:(0:Int)<(n:Int):=by omega
  have h2:(n:Int)≤(l.length:Int):=by omega
  have HF:Hid (mm l=ml (l.drop n)):=Lib.hid (by rw [HB.out,decide_eq_true h];rfl)
  clear HB
  go_enter Tryz.func163,Tryz.ntmps163
  go_wp2_with (first|(go_at_call 177;refine (eA l _ hm).mono ?_;rintro e w' ⟨rfl,rfl⟩;rw [HN.out])|(go_at_call 164;(with_reducible refine (Bu (l.drop n) _ (by simp;omega)).mono ?_);rintro e w' ⟨rfl,rfl⟩))
  all_goals (go_ret;exact ⟨dX HF.out.symm,by trivial⟩)
 ·have h1:¬(0:Int)<(n:Int):=by omega
  have HF:Hid (mm l=false):=Lib.hid (by rw [HB.out,decide_eq_false h];rfl)
  clear HB
  go_enter Tryz.func163,Tryz.ntmps163
  go_wp2_with (first|(go_at_call 177;refine (eA l _ hm).mono ?_;rintro e w' ⟨rfl,rfl⟩;rw [HN.out]))
  all_goals (go_ret;exact ⟨dX HF.out.symm,by trivial⟩)
set_option maxHeartbeats 2000000 in
theorem fw(l:List UInt8)(w:World)(hm:l.length≤1000000):
 Calls Tryz.prog 123 #[.string ⟨l.toArray⟩] w fun e w'=>e=.returned (.bool (bS l))∧w=w':=by
 have b0:=dE l 0
 have b0':=dF l 0
 by_cases h2:l.length=2
 ·have e2:((l.length:Int)==2)=true:=by rw [beq_iff_eq];omega
  have p0:(0:Int)<(l.length:Int):=by omega
  have p1:(1:Int)<(l.length:Int):=by omega
  cases hl:C3 (aD l 0)with
  |false=>
   have HF:Hid (bS l=false):=Lib.hid (by unfold bS;rw [hl];simp)
   have HL:=Lib.hid hl
   clear hl h2
   go_enter Tryz.func123,Tryz.ntmps123
   go_wp2_with (go_at_call 153;refine (jh _ _ b0 b0').mono ?_;rintro e w' ⟨rfl,rfl⟩;rw [HL.out])
   all_goals (go_ret;exact ⟨dX HF.out.symm,by trivial⟩)
  |true=>
   by_cases c1:aD l 1=58
   ·have HF:Hid (bS l=true):=Lib.hid (by unfold bS;rw [hl,c1,h2];rfl)
    have HL:=Lib.hid hl
    have d1:(aD l 1==58)=true:=by rw [beq_iff_eq];exact c1
    clear hl h2 c1
    go_enter Tryz.func123,Tryz.ntmps123
    go_wp2_with (go_at_call 153;refine (jh _ _ b0 b0').mono ?_;rintro e w' ⟨rfl,rfl⟩;rw [HL.out])
    all_goals (go_ret;exact ⟨dX HF.out.symm,by trivial⟩)
   by_cases c2:aD l 1=124
   ·have HF:Hid (bS l=true):=Lib.hid (by unfold bS;rw [hl,c2,h2];rfl)
    have HL:=Lib.hid hl
    have d1:(aD l 1==58)=false:=by rw [beq_eq_false_iff_ne];exact c1
    have d2:(aD l 1==124)=true:=by rw [beq_iff_eq];exact c2
    clear hl h2 c1 c2
    go_enter Tryz.func123,Tryz.ntmps123
    go_wp2_with (go_at_call 153;refine (jh _ _ b0 b0').mono ?_;rintro e w' ⟨rfl,rfl⟩;rw [HL.out])
    all_goals (go_ret;exact ⟨dX HF.out.symm,by trivial⟩)
   ·have HF:Hid (bS l=false):=Lib.hid (by unfold bS;simp [c1,c2])
    have HL:=Lib.hid hl
    have d1:(aD l 1==58)=false:=by rw [beq_eq_false_iff_ne];exact c1
    have d2:(aD l 1==124)=false:=by rw [beq_eq_false_iff_ne];exact c2
    clear hl h2 c1 c2
    go_enter Tryz.func123,Tryz.ntmps123
    go_wp2_with (go_at_call 153;refine (jh _ _ b0 b0').mono ?_;rintro e w' ⟨rfl,rfl⟩;rw [HL.out])
    all_goals (go_ret;exact ⟨dX HF.out.symm,by trivial⟩)
 ·have e2:((l.length:Int)==2)=false:=by rw [beq_eq_false_iff_ne];omega
  have HF:Hid (bS l=false):=Lib.hid (by unfold bS;rw [decide_eq_false h2];rfl)
  clear h2
  go_enter Tryz.func123,Tryz.ntmps123
  go_wp2_with fail
  all_goals (go_ret;exact ⟨dX HF.out.symm,by trivial⟩)
set_option maxHeartbeats 2000000 in
theorem zD(l:List UInt8)(w:World)(hm:l.length≤1000000):
 Calls Tryz.prog 156 #[.string ⟨l.toArray⟩] w fun e w'=>e=.returned (.bool (bC l))∧w=w':=by
 by_cases h2:l.length<2
 ·have HF:Hid (bC l=false):=Lib.hid (by unfold bC;rw [decide_eq_false (by omega)];rfl)
  go_enter Tryz.func156,Tryz.ntmps156
  go_wp2_with fail
  all_goals (go_ret;exact ⟨dX HF.out.symm,by trivial⟩)
 have p2:(2:Int)≤(l.length:Int):=by omega
 have hmt:(l.take 2).length≤1000000:=by simp;omega
 cases hd:bS (l.take 2)with
 |false=>
  have HF:Hid (bC l=false):=Lib.hid (by unfold bC;rw [hd];simp)
  have HD:=Lib.hid hd
  clear hd
  go_enter Tryz.func156,Tryz.ntmps156
  go_wp2_with (go_at_call 123;refine (fw (l.take 2) _ hmt).mono ?_;rintro e w' ⟨rfl,rfl⟩;rw [HD.out])
  all_goals (go_ret;exact ⟨dX HF.out.symm,by trivial⟩)
 |true=>
  by_cases h3:l.length=2
  ·have HF:Hid (bC l=true):=Lib.hid (by unfold bC;rw [hd,h3];rfl)
   have HD:=Lib.hid hd
   have e3:((l.length:Int)==2)=true:=by rw [beq_iff_eq];omega
   clear hd h3
   go_enter Tryz.func156,Tryz.ntmps156
   go_wp2_with (go_at_call 123;refine (fw (l.take 2) _ hmt).mono ?_;rintro e w' ⟨rfl,rfl⟩;rw [HD.out])
   all_goals (go_ret;exact ⟨dX HF.out.symm,by trivial⟩)
  ·have HF:Hid (bC l=Im (aD l 2)):=Lib.hid (by unfold bC;rw [hd,decide_eq_false h3,decide_eq_true (by omega)];rfl)
   have HD:=Lib.hid hd
   have e3:((l.length:Int)==2)=false:=by rw [beq_eq_false_iff_ne];omega
   have p3:(2:Int)<(l.length:Int):=by omega
   clear hd h3
   generalize hc:aD l 2=c at *
   have HC:=Lib.hid hc
   by_cases d1:c=47
   ·subst d1
    go_enter Tryz.func156,Tryz.ntmps156
    go_wp2_with (go_at_call 123;refine (fw (l.take 2) _ hmt).mono ?_;rintro e w' ⟨rfl,rfl⟩;rw [HD.out])
    all_goals (go_ret;exact ⟨dX HF.out.symm,by trivial⟩)
   by_cases d2:c=92
   ·subst d2
    go_enter Tryz.func156,Tryz.ntmps156
    go_wp2_with (go_at_call 123;refine (fw (l.take 2) _ hmt).mono ?_;rintro e w' ⟨rfl,rfl⟩;rw [HD.out])
    all_goals (go_ret;exact ⟨dX HF.out.symm,by trivial⟩)
   by_cases d3:c=63
   ·subst d3
    go_enter Tryz.func156,Tryz.ntmps156
    go_wp2_with (go_at_call 123;refine (fw (l.take 2) _ hmt).mono ?_;rintro e w' ⟨rfl,rfl⟩;rw [HD.out])
    all_goals (go_ret;exact ⟨dX HF.out.symm,by trivial⟩)
   by_cases d4:c=35
   ·subst d4
    go_enter Tryz.func156,Tryz.ntmps156
    go_wp2_with (go_at_call 123;refine (fw (l.take 2) _ hmt).mono ?_;rintro e w' ⟨rfl,rfl⟩;rw [HD.out])
    all_goals (go_ret;exact ⟨dX HF.out.symm,by trivial⟩)
   ·have f1:(c==47)=false:=by rw [beq_eq_false_iff_ne];exact d1
    have f2:(c==92)=false:=by rw [beq_eq_false_iff_ne];exact d2
    have f3:(c==63)=false:=by rw [beq_eq_false_iff_ne];exact d3
    have f4:(c==35)=false:=by rw [beq_eq_false_iff_ne];exact d4
    have HG:Hid (Im c=false):=Lib.hid (by unfold Im;exact decide_eq_false (by omega))
    clear d1 d2 d3 d4
    go_enter Tryz.func156,Tryz.ntmps156
    go_wp2_with (go_at_call 123;refine (fw (l.take 2) _ hmt).mono ?_;rintro e w' ⟨rfl,rfl⟩;rw [HD.out])
    all_goals (go_ret;exact ⟨dX (HF.out.trans HG.out).symm,by trivial⟩)
end Go.Proofs.YtmfapopclbnlpaaGreatDoor
