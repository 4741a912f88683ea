package code

import (
	"math"

	"treadle/api"
)

// meaning is what an instruction's N tells.
type meaning int

const (
	noNumber meaning = iota
	constNumber
	varNumber
	place
	procNumber
	needNumber
)

// shape is what holds of all instructions of a code.
type shape struct {
	text  string
	n     meaning
	takes int      // how many values; of a call its procedure tells it
	of    api.Type // what each of these must be; TypeNone: that is no one type
	lays  api.Type // TypeNone: nothing, or what N tells
}

var shapes = [api.CodeCount]shape{
	api.CodeConst:  {text: "const", n: constNumber},
	api.CodeLoad:   {text: "load", n: varNumber},
	api.CodeStore:  {text: "store", n: varNumber, takes: 1},
	api.CodeDrop:   {text: "drop", takes: 1},
	api.CodeJump:   {text: "jump", n: place},
	api.CodeUnless: {text: "unless", n: place, takes: 1, of: api.TypeBool},
	api.CodeCall:   {text: "call", n: procNumber},
	api.CodeOuter:  {text: "outer", n: needNumber},
	api.CodeReturn: {text: "return"},
	api.CodeGive:   {text: "give", takes: 1},
	api.CodePrint:  {text: "print", takes: 1},
	api.CodeEq:     {text: "eq", takes: 2, lays: api.TypeBool},
	api.CodeNe:     {text: "ne", takes: 2, lays: api.TypeBool},
	api.CodeLt:     {text: "lt", takes: 2, lays: api.TypeBool},
	api.CodeLe:     {text: "le", takes: 2, lays: api.TypeBool},
	api.CodeGt:     {text: "gt", takes: 2, lays: api.TypeBool},
	api.CodeGe:     {text: "ge", takes: 2, lays: api.TypeBool},
	api.CodeAdd:    {text: "add", takes: 2, of: api.TypeInt, lays: api.TypeInt},
	api.CodeSub:    {text: "sub", takes: 2, of: api.TypeInt, lays: api.TypeInt},
	api.CodeJoin:   {text: "join", takes: 2, of: api.TypeText, lays: api.TypeText},
	api.CodeMul:    {text: "mul", takes: 2, of: api.TypeInt, lays: api.TypeInt},
	api.CodeDiv:    {text: "div", takes: 2, of: api.TypeInt, lays: api.TypeInt},
	api.CodeRem:    {text: "rem", takes: 2, of: api.TypeInt, lays: api.TypeInt},
	api.CodeNeg:    {text: "neg", takes: 1, of: api.TypeInt, lays: api.TypeInt},
	api.CodeNot:    {text: "not", takes: 1, of: api.TypeBool, lays: api.TypeBool},
	api.CodeLen:    {text: "len", takes: 1, of: api.TypeText, lays: api.TypeInt},
}

// maxN is the greatest N that can be written.
const maxN = math.MaxInt32

func isCode(c api.Code) bool { return c > api.CodeNone && c < api.CodeCount }

func hasNumber(c api.Code) bool { return shapes[c].n != noNumber }

// writable tells whether an instruction has a form as bytes and text.
func writable(i api.Instr) bool {
	if !isCode(i.Code) {
		return false
	}
	if hasNumber(i.Code) {
		return i.N >= 0 && i.N <= maxN
	}
	return i.N == 0
}
