package sheet

import "tierline/api"

// funcWord begins the line of a function.
const funcWord = "func"

var words = [api.Ret + 1]string{
	api.Set:   "set",
	api.Add:   "add",
	api.Sub:   "sub",
	api.Mul:   "mul",
	api.Div:   "div",
	api.And:   "and",
	api.Or:    "or",
	api.Xor:   "xor",
	api.Shl:   "shl",
	api.Sar:   "sar",
	api.Lt:    "lt",
	api.Eq:    "eq",
	api.Load:  "load",
	api.Store: "store",
	api.Jump:  "jump",
	api.If:    "if",
	api.Call:  "call",
	api.Host:  "host",
	api.Ret:   "ret",
}

// opOf a word; 0: it is no op's. The search begins behind 0, as the table's first word is the empty one, and belongs to no op.
func opOf(word string) int {
	for op := api.Set; op <= api.Ret; op++ {
		if words[op] == word {
			return op
		}
	}
	return 0
}
